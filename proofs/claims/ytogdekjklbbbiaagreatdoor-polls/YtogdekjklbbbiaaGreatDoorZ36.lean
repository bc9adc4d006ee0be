import Derived.Test.YtogdekjklbbbiaaGreatDoorPw
set_option maxRecDepth 100000
namespace Go.Proofs.YtogdekjklbbbiaaGreatDoor
open Go.ChangeShapes Go.WideShapes Go.ChangeAt Go.RowKit
set_option linter.unusedSimpArgs false
set_option linter.unusedVariables false

/-- The flow of a number that was handed in. -/
def lookI (l : List Pace.Fl) (f : Int) : Option Pace.Fl := l.find? fun x => decide ((x.num : Int) = f)
theorem lookI_some {l : List Pace.Fl} {f : Int} {x : Pace.Fl} (h : lookI l f = some x) (hnd : (l.map (·.num)).Nodup) : x ∈ l ∧ (x.num : Int) = f ∧ Pace.look l x.num = some x ∧ f.toNat = x.num := by
  have h1 := List.mem_of_find?_eq_some h
  have h2 := List.find?_some h
  have h3 : (x.num : Int) = f := by simpa using h2
  exact ⟨h1, h3, Pace.look_of_mem hnd h1, by omega⟩
theorem fz_cells {W : World} {z : Nat} {cur : Array Value} {t : TypeId} (h : W.heap[z]? = some (.cells cur t)) (o : Nat) : W.frozen? ⟨z, o, none⟩ = false := by simp [World.frozen?, h]
/-- New. -/
theorem pa_new (w : World) (hz : 0 < w.heap.size) (q : Int) (h1 : 1500 ≤ q) (h2 : q ≤ 1000000) :
    Calls Tryz.prog 9 #[.int .i64 q] w fun e w' => ∃ b y, e = .returned (.tuple #[.pointer (some ⟨b, 0, none⟩), .int .i64 0]) ∧ PA w' b y (Pace.PS.new q.toNat) ⟨0, 0, 0, 0, 0, 0⟩ ∧ Fr w w' (fun _ => False) ∧ ∀ k, y.own k → w.heap.size ≤ k := by
  refine (new_good q w (fun wb w1 => Fr w w1 (fun _ => False) ∧ ∃ O : Nat → Prop, WA w1 wb O 0 [] ∧ ∀ k, O k → w.heap.size ≤ k) h1 h2 (wa_new w)).mono ?_
  rintro e w' ⟨wb, w1, ⟨hfr, O, hW, hO⟩, rfl, rfl⟩
  have hs := hfr.size
  have hh := heap_alloc_new w1 (.cells #[.int .i64 q, .int .i64 0, .int .i64 0, .slice none 0 0, .slice none 0 0, .pointer (some ⟨wb, 0, none⟩), .int .i64 0, .int .i64 0, .int .i64 0, .int .i64 0, .int .i64 0, .int .i64 0, .int .u32 0, .int .i32 0, .int .u32 0, .bool false] 66)
  have hc := fun o => heap_cell hh o
  have hqq : ((q.toNat : Nat) : Int) = q := by omega
  refine ⟨w1.heap.size, { tag := fun k => if k = w1.heap.size then .self else if w.heap.size ≤ k ∧ k < w1.heap.size then .wheel else .none, B := fun _ => 0, V := fun _ => .slice none 0 0, cr := fun _ => 0, rk := fun _ => 0, bt := fun _ => 0, fv := .slice none 0 0, pv := .slice none 0 0, wb := wb, wn := 0, wo := O }, rfl, ⟨[], ⟨?_, ?_, ?_, ?_, ?_, World.ownsRow_nil _ _ _ _, ?_, World.ownsRow_nil _ _ _ _, ?_, ?_, ?_, Nat.le_refl _, ?_, ?_, ?_, ?_, ?_⟩, Pace.PS.new_inv (by omega), Pace.Same.new (by omega), Shrt.nil⟩, hfr.alloc _, ?_⟩
  · exact if_pos rfl
  · show (if _ then _ else _) = _
    rw [if_neg (by omega), if_neg (by omega)]
  · intro k hO'
    have hO2 : (if k = w1.heap.size then Tag.self else if w.heap.size ≤ k ∧ k < w1.heap.size then .wheel else .none) ≠ .none := hO'
    have : (w1.alloc (.cells #[.int .i64 q, .int .i64 0, .int .i64 0, .slice none 0 0, .slice none 0 0, .pointer (some ⟨wb, 0, none⟩), .int .i64 0, .int .i64 0, .int .i64 0, .int .i64 0, .int .i64 0, .int .i64 0, .int .u32 0, .int .i32 0, .int .u32 0, .bool false] 66)).heap.size = w1.heap.size + 1 := by simp
    rw [this]
    by_cases q1 : k = w1.heap.size
    · omega
    · rw [if_neg q1] at hO2
      by_cases q2 : w.heap.size ≤ k ∧ k < w1.heap.size
      · omega
      · rw [if_neg q2] at hO2; exact absurd rfl hO2
  · intro o; exact fz_cells hh o
  · refine ⟨?_, by rw [hc]; rfl, by rw [hc]; rfl, by rw [hc]; rfl, by rw [hc]; rfl, by rw [hc]; rfl, by rw [hc]; rfl, by rw [hc]; rfl, by rw [hc]; rfl, by rw [hc]; rfl, by rw [hc]; rfl, by rw [hc]; rfl, by rw [hc]; rfl, by rw [hc]; rfl, by rw [hc]; rfl, by rw [hc]; rfl⟩
    rw [hc]
    show _ = some (Value.int .i64 ((q.toNat : Nat) : Int))
    rw [hqq]; rfl
  · intro g hg; cases hg
  · intro g hg; cases hg
  · exact hW.kept ((Fr.refl _ (fun _ => False)).alloc _) fun _ _ q => q
  · intro k hk
    show (if _ then _ else _) = _
    have := hO k hk
    have := hW.olt hk
    rw [if_neg (by omega), if_pos ⟨by omega, by omega⟩]
  · intro f hf; cases hf
  · intro f hf; cases hf
  · intro f hf; cases hf
  · intro f hf; cases hf
  · intro f hf; cases hf
  · intro k hk
    have hk' : (if k = w1.heap.size then Tag.self else if w.heap.size ≤ k ∧ k < w1.heap.size then .wheel else .none) ≠ .none := hk
    by_cases q1 : k = w1.heap.size
    · omega
    · rw [if_neg q1] at hk'
      by_cases q2 : w.heap.size ≤ k ∧ k < w1.heap.size
      · exact q2.1
      · rw [if_neg q2] at hk'; exact absurd rfl hk'
theorem PB.taken {w : World} {b q ck nw : Nat} {fv pv : Value} {wb : Nat} {c : Cn} (h : PB w b q ck nw fv pv wb c) (n : Nat) : PB (w.setCell ⟨b, 6, none⟩ (.int .i64 (n : Int))) b q ck nw fv pv wb { c with taken := n } := by
  have hc : Ch w (w.setCell ⟨b, 6, none⟩ (.int .i64 (n : Int))) (fun a o => a = b ∧ o = 6) := (Ch.refl w _).setCell ⟨rfl, rfl⟩ _
  have hcc : ∀ o, o ≠ 6 → (w.setCell ⟨b, 6, none⟩ (.int .i64 (n : Int))).cell? ⟨b, o, none⟩ = w.cell? ⟨b, o, none⟩ := fun o ho => hc.cell b o fun q => ho q.2
  exact ⟨by rw [hcc _ (by omega)]; exact h.c0, by rw [hcc _ (by omega)]; exact h.c1, by rw [hcc _ (by omega)]; exact h.c2, by rw [hcc _ (by omega)]; exact h.c3, by rw [hcc _ (by omega)]; exact h.c4, by rw [hcc _ (by omega)]; exact h.c5, World.cell?_setCell_same' _ _ _ (by rw [h.c6]; rfl), by rw [hcc _ (by omega)]; exact h.c7, by rw [hcc _ (by omega)]; exact h.c8, by rw [hcc _ (by omega)]; exact h.c9, by rw [hcc _ (by omega)]; exact h.c10, by rw [hcc _ (by omega)]; exact h.c11, by rw [hcc _ (by omega)]; exact h.c12, by rw [hcc _ (by omega)]; exact h.c13, by rw [hcc _ (by omega)]; exact h.c14, by rw [hcc _ (by omega)]; exact h.c15⟩
theorem PB.refused {w : World} {b q ck nw : Nat} {fv pv : Value} {wb : Nat} {c : Cn} (h : PB w b q ck nw fv pv wb c) (n : Nat) : PB (w.setCell ⟨b, 7, none⟩ (.int .i64 (n : Int))) b q ck nw fv pv wb { c with refused := n } := by
  have hc : Ch w (w.setCell ⟨b, 7, none⟩ (.int .i64 (n : Int))) (fun a o => a = b ∧ o = 7) := (Ch.refl w _).setCell ⟨rfl, rfl⟩ _
  have hcc : ∀ o, o ≠ 7 → (w.setCell ⟨b, 7, none⟩ (.int .i64 (n : Int))).cell? ⟨b, o, none⟩ = w.cell? ⟨b, o, none⟩ := fun o ho => hc.cell b o fun q => ho q.2
  exact ⟨by rw [hcc _ (by omega)]; exact h.c0, by rw [hcc _ (by omega)]; exact h.c1, by rw [hcc _ (by omega)]; exact h.c2, by rw [hcc _ (by omega)]; exact h.c3, by rw [hcc _ (by omega)]; exact h.c4, by rw [hcc _ (by omega)]; exact h.c5, by rw [hcc _ (by omega)]; exact h.c6, World.cell?_setCell_same' _ _ _ (by rw [h.c7]; rfl), by rw [hcc _ (by omega)]; exact h.c8, by rw [hcc _ (by omega)]; exact h.c9, by rw [hcc _ (by omega)]; exact h.c10, by rw [hcc _ (by omega)]; exact h.c11, by rw [hcc _ (by omega)]; exact h.c12, by rw [hcc _ (by omega)]; exact h.c13, by rw [hcc _ (by omega)]; exact h.c14, by rw [hcc _ (by omega)]; exact h.c15⟩
theorem PM.count {w w' : World} {b : Nat} {y : Lay} {s : Pace.St} {nw : Nat} {P : List Pace.Cmd} {c c' : Cn} {o : Nat} {v : Value} (h : PM w b y s nw P c) (hw : w' = w.setCell ⟨b, o, none⟩ v) (hPB : PB w' b s.q s.clock nw y.fv y.pv y.wb c') : ∃ y', PM w' b y' s nw P c' ∧ Step w w' y y' ∧ y'.B = y.B := by
  subst hw
  obtain ⟨y', h1, h2, h3, _⟩ := h.self (s' := s) (P' := P) (ch1 _ _ _ _) (fun o => by rw [World.frozen?_setCell]; exact h.fz o) hPB (row_kept h.rp fun g hg => Below.heap_setCell _ _ _ _ fun e => by
    have := h.tp g hg
    have e' : g = b := e
    rw [e', h.tb] at this; cases this) (.inl rfl) rfl (Nat.le_refl _) rfl (fun f hf => ⟨f, hf, rfl, rfl, rfl, rfl, rfl, h.fc f hf⟩)
  exact ⟨y', h1, h2, h3⟩
/-- What Enqueue answers. -/
def enqR (p : Pace.PS) (f l : Int) : Int :=
  match lookI p.st.fl f with
  | none => 5
  | some x => if l < 1 ∨ 1500 < l then 2 else if x.pk.length = 8 then 8 else 0
def enqP (p : Pace.PS) (f t l : Int) : Pace.PS := if enqR p f l = 0 then p.enq f.toNat t l.toNat else p
def enqC (p : Pace.PS) (f l : Int) (c : Cn) : Cn := if enqR p f l = 0 then { c with taken := c.taken + 1 } else { c with refused := c.refused + 1 }
theorem pa_enq_no {w : World} {b : Nat} {y : Lay} {p : Pace.PS} {c : Cn} (h : PA w b y p c) (hc : c.refused < 8000000000000000000) (f t l er : Int) (her : er ≠ 0) (hr : enqR p f l = er) (hT : Calls Tryz.prog 77 #[.pointer (some ⟨b, 0, none⟩), .int .i64 f, .int .i64 t, .int .i64 l] w fun e w' => e = .returned (.int .i64 er) ∧ w' = w) :
    Calls Tryz.prog 31 #[.pointer (some ⟨b, 0, none⟩), .int .i64 f, .int .i64 t, .int .i64 l] w fun e w' => e = .returned (.int .i64 (enqR p f l)) ∧ ∃ y', PA w' b y' (enqP p f t l) (enqC p f l c) ∧ Stp w w' y y' := by
  obtain ⟨P, hM, hI, hS, hSh⟩ := h
  refine (enq_bad b f t l er c.refused w her hT hM.pb.c7 (hM.fz 7) (by omega)).mono ?_
  rintro e w' ⟨rfl, rfl⟩
  have hne : ¬ enqR p f l = 0 := by rw [hr]; exact her
  obtain ⟨y1, hP1, hs1, _⟩ := hM.count (w' := w.setCell ⟨b, 7, none⟩ (.int .i64 ((c.refused : Int) + 1))) (c' := { c with refused := c.refused + 1 }) rfl (by
    have := hM.pb.refused (c.refused + 1)
    rw [show ((c.refused + 1 : Nat) : Int) = (c.refused : Int) + 1 by omega] at this
    exact this)
  refine ⟨by rw [hr], y1, ?_, hs1.stp⟩
  unfold enqP enqC
  rw [if_neg hne, if_neg hne]
  exact ⟨P, hP1, hI, hS, hSh⟩
/-- Enqueue. -/
theorem pa_enq {w : World} {b : Nat} {y : Lay} {p : Pace.PS} {c : Cn} (h : PA w b y p c) (hc : c.refused < 8000000000000000000) (hc' : c.taken < 8000000000000000000) (f t l : Int) :
    Calls Tryz.prog 31 #[.pointer (some ⟨b, 0, none⟩), .int .i64 f, .int .i64 t, .int .i64 l] w fun e w' => e = .returned (.int .i64 (enqR p f l)) ∧ ∃ y', PA w' b y' (enqP p f t l) (enqC p f l c) ∧ Stp w w' y y' := by
  have hPA := h
  obtain ⟨P, hM, hI, hS, hSh⟩ := h
  have hV := pm_live hM hI.few f
  have hnd := hI.pi.wf.nums
  cases hl : lookI p.st.fl f with
  | none =>
    unfold lookI at hl
    rw [hl] at hV
    exact pa_enq_no hPA hc f t l 5 (by omega) (by unfold enqR lookI; rw [hl]) (take_none b f t l w hV)
  | some x =>
    obtain ⟨hx, hxf, hlk, hft⟩ := lookI_some hl hnd
    have hl' := hl
    unfold lookI at hl
    rw [hl] at hV
    have hV : Calls Tryz.prog 68 #[.pointer (some ⟨b, 0, none⟩), .int .i64 f] w fun e w' => w' = w ∧ e = .returned (liveV (some (y.B x.num))) := hV
    by_cases hb : l < 1 ∨ 1500 < l
    · exact pa_enq_no hPA hc f t l 2 (by omega) (by unfold enqR; rw [hl']; simp only; rw [if_pos hb]) (take_big b _ f t l w hV hb)
    · obtain ⟨h1, h2, h3, h4⟩ := hM.at_flow hlk
      by_cases h8 : x.pk.length = 8
      · obtain ⟨a, cc, hv⟩ := row_len h1.row
        exact pa_enq_no hPA hc f t l 8 (by omega) (by unfold enqR; rw [hl']; simp only; rw [if_neg hb, if_pos h8]) (take_full b _ f t l a cc w hV (by omega) (by omega) (by rw [h1.c5, hv, h8]))
      · have h80 : P.length ≤ 80 := short80 hS.inv.pi hSh hI.few
        have hFx := hI.pi.wf.F x hx
        have hfew := hFx.few
        have hR : enqR p f l = 0 := by unfold enqR; rw [hl']; simp only; rw [if_neg hb, if_neg h8]
        have hxb : y.B x.num ≠ b := fun e => by rw [e, hM.tb] at h4; cases h4
        have hvt : ∀ g, (y.V x.num).ownBlock = some g → y.tag g = .pk x.num := fun g hg => hM.tk x hx g hg
        refine (enq_good b f t l c.taken w (fun w1 => TakeP w w1 b (y.B x.num) x.pk.length P.length t l (y.V x.num) y.pv (pkC x.pk) (cmdsC y.B P)) (take_good b (y.B x.num) x.pk.length P.length f t l (y.V x.num) y.pv (pkC x.pk) (cmdsC y.B P) w hV (by omega) (by omega) (by omega) (by omega) h1.c5 hM.pb.c4 h1.fz hM.fz hxb h1.row hM.rp h3 (fun e => by have := hvt b e; rw [hM.tb] at this; cases this) (fun e => by have := hM.tp _ e; rw [h4] at this; cases this) (pv_ne_b hM) (fun g hg e => by have a1 := hvt g hg; have a2 := hM.tp g e; rw [a1] at a2; cases a2)) ?_ (by omega)).mono ?_
        all_goals
          have key : ∀ w1, TakeP w w1 b (y.B x.num) x.pk.length P.length t l (y.V x.num) y.pv (pkC x.pk) (cmdsC y.B P) → ∃ y2, PM w1 b y2 (p.enq x.num t l.toNat).st p.newest (P ++ [Pace.Cmd.enq x.num]) c ∧ Step w w1 y y2 := by
            rintro w1 ⟨v', pv', w2, w4, hrv, hG1, hrp, hG2, rfl⟩
            have hxl : y.B x.num < w.heap.size := hM.lt _ (hM.own_of h4 (by simp))
            have hs0 : (w.alloc (.cells #[.int .i64 t, .int .i64 l] 87)).heap.size = w.heap.size + 1 := by simp
            have hx2 : w2.heap[y.B x.num]? = w.heap[y.B x.num]? := (hG1.fr.blk _ (by omega) h3).trans (Below.heap_alloc _ _ _ (by omega))
            have hch : Ch w2 (w2.setCell ⟨y.B x.num, 5, none⟩ v') (fun a o => a = y.B x.num ∧ o = 5) := (Ch.refl w2 _).setCell ⟨rfl, rfl⟩ _
            have hcc : ∀ o, o ≠ 5 → (w2.setCell ⟨y.B x.num, 5, none⟩ v').cell? ⟨y.B x.num, o, none⟩ = w.cell? ⟨y.B x.num, o, none⟩ := fun o ho => (hch.cell _ o fun q => ho q.2).trans (World.cell?_of_block (w := w) (a := ⟨y.B x.num, o, none⟩) hx2)
            have hnew : ∀ g, v'.ownBlock = some g → (y.V x.num).ownBlock = some g ∨ w.heap.size ≤ g := fun g hg => by
              rcases hG1.new hg with q | q
              · exact .inl q
              · exact .inr (by omega)
            have hpk : pkC x.pk ++ [.int .i64 t, .int .i64 l] = pkC (Pace.withPk t l.toNat x).pk := by
              show _ = pkC (x.pk ++ [(t, l.toNat)])
              simp [pkC]
              omega
            have hFA : FA (w2.setCell ⟨y.B x.num, 5, none⟩ v') (y.B x.num) (Pace.withPk t l.toNat x) (y.cr x.num) (y.rk x.num) (y.bt x.num) v' := by
              refine ⟨by rw [hcc 0 (by omega)]; exact h1.c0, by rw [hcc 1 (by omega)]; exact h1.c1, by rw [hcc 2 (by omega)]; exact h1.c2, by rw [hcc 3 (by omega)]; exact h1.c3, by rw [hcc 4 (by omega)]; exact h1.c4, ?_, by rw [hcc 6 (by omega)]; exact h1.c6, by rw [hcc 7 (by omega)]; exact h1.c7, ?_, ?_⟩
              · refine World.cell?_setCell_same' _ _ _ ?_
                rw [World.cell?_of_block (w := w) (a := ⟨y.B x.num, 5, none⟩) hx2, h1.c5]; rfl
              · have e1 : (Pace.withPk t l.toNat x).pk.length = x.pk.length + 1 := by show (x.pk ++ [_]).length = _; simp
                rw [e1, ← hpk]
                refine row_kept0 hrv fun g hg => Below.heap_setCell _ _ _ _ fun e => ?_
                have e' : g = y.B x.num := e
                rcases hnew g hg with q | q
                · rw [e'] at q; exact h3 q
                · omega
              · intro o; rw [World.frozen?_setCell, frozen_of hx2 o]; exact h1.fz o
            have hfr : Fr w (w2.setCell ⟨y.B x.num, 5, none⟩ v') (fun k => y.tag k = .flow x.num ∨ y.tag k = .pk x.num) := (((Fr.refl w _).alloc _).trans hG1.fr fun k _ q => .inr (hvt k q)).trans (hch.fr2 (O := fun k => k = y.B x.num) fun a o q => q.1) fun k _ q => .inl (by rw [q]; exact h4)
            obtain ⟨y1, hP1, hs1, b1, b2, b3, b4, b5⟩ := hM.flow (f' := Pace.withPk t l.toNat x) hlk rfl hfr hFA ⟨h2.rle, h2.cle, h2.eq⟩ hnew (fun a ha q => by rw [← q]; exact hM.ak a ha)
            rw [← upd_const hnd hlk (Pace.withPk t l.toNat)] at hP1
            obtain ⟨y2, hP2, hs2, _⟩ := pm_push hP1 (Pace.Cmd.enq x.num) (pv' := pv') (by rw [b1]; exact hrp) (by rw [b5]; exact hG2)
            exact ⟨y2, hP2, hs1.trans hs2⟩
        · intro w1 hw1
          obtain ⟨y2, hP2, _⟩ := key w1 hw1
          exact ⟨hP2.pb.c6, hP2.fz 6⟩
        · rintro e w' ⟨rfl, w1, hw1, rfl⟩
          obtain ⟨y2, hP2, hs2⟩ := key w1 hw1
          obtain ⟨y3, hP3, hs3, _⟩ := hP2.count (w' := w1.setCell ⟨b, 6, none⟩ (.int .i64 ((c.taken : Int) + 1))) (c' := { c with taken := c.taken + 1 }) rfl (by
            have := hP2.pb.taken (c.taken + 1)
            rw [show ((c.taken + 1 : Nat) : Int) = (c.taken : Int) + 1 by omega] at this
            exact this)
          refine ⟨by rw [hR], y3, ?_, (hs2.trans hs3).stp⟩
          unfold enqP enqC
          rw [if_pos hR, if_pos hR, hft]
          have hex : ∃ z ∈ p.st.fl, z.num = x.num := ⟨x, hx, rfl⟩
          have hl8 : ∀ z ∈ p.st.fl, z.num = x.num → z.pk.length < 8 := fun z hz e => by
            have := Pace.look_of_mem hnd hz
            rw [e, hlk] at this
            injection this with this
            subst this
            omega
          exact ⟨P ++ [Pace.Cmd.enq x.num], hP3, hI.enq t hex (by omega) hl8, hS.enq t hex (by omega) hl8, hSh.snoc fun _ => rfl⟩
end Go.Proofs.YtogdekjklbbbiaaGreatDoor

namespace Go.Proofs.YtogdekjklbbbiaaGreatDoor
open Go.ChangeShapes Go.WideShapes Go.ChangeAt Go.RowKit
set_option linter.unusedSimpArgs false
set_option linter.unusedVariables false

set_option maxHeartbeats 1000000 in
theorem delf78_nil (z y : Addr) (a : Option Addr) (cap : Nat) (w : World) : Calls Tryz.prog 81 #[.slice a 0 cap, .func (.func 120) #[] #[.pointer (some z), .pointer (some y)]] w fun e w' => e = .returned (.slice a 0 cap) ∧ Fr w w' (fun _ => False) := by
  have hI := idx78_walk 0 cap 0 z y a (fun _ => 0) (fun _ => 0) (fun _ => 0) (fun _ => 0) (fun _ => 0) (fun _ => false) (fun _ => False) w (fun _ _ => True) (by omega) trivial (fun _ q => q.elim) (fun q => q) (fun q => absurd q (by omega)) (fun k hk => absurd hk (by omega)) (fun k W _ hk => absurd hk (by omega))
  have HI := hide hI
  clear hI
  go_enter Tryz.func81, Tryz.ntmps81
  go_wp2_with fail
  refine (unhide HI).mono ?_
  rintro e w1 ⟨hF1, ⟨i, hin, rfl, hdi, hlt, hR1⟩ | ⟨rfl, hall, hR1⟩⟩
  · omega
  · have HF1 := hide hF1
    clear hF1 hall hR1
    go_wp2_with fail
    go_ret
    exact ⟨rfl, unhide HF1⟩
set_option maxHeartbeats 1000000 in
theorem delf55_nil (z : Addr) (a : Option Addr) (cap : Nat) (w : World) : Calls Tryz.prog 81 #[.slice a 0 cap, .func (.func 82) #[] #[.pointer (some z)]] w fun e w' => e = .returned (.slice a 0 cap) ∧ Fr w w' (fun _ => False) := by
  have hI := idx55_walk 0 cap 0 z a (fun _ => 0) (fun _ => 0) (fun _ => 0) (fun _ => 0) (fun _ => 0) (fun _ => false) (fun _ => False) w (fun _ _ => True) (by omega) trivial (fun _ q => q.elim) (fun q => q) (fun q => absurd q (by omega)) (fun k hk => absurd hk (by omega)) (fun k W _ hk => absurd hk (by omega))
  have HI := hide hI
  clear hI
  go_enter Tryz.func81, Tryz.ntmps81
  go_wp2_with fail
  refine (unhide HI).mono ?_
  rintro e w1 ⟨hF1, ⟨i, hin, rfl, hdi, hlt, hR1⟩ | ⟨rfl, hall, hR1⟩⟩
  · omega
  · have HF1 := hide hF1
    clear hF1 hall hR1
    go_wp2_with fail
    go_ret
    exact ⟨rfl, unhide HF1⟩
theorem range_nth : ∀ P : List Pace.Cmd, P = (List.range P.length).map (nthC P) := by
  intro P
  apply List.ext_getElem?
  intro k
  rw [List.getElem?_map]
  by_cases h : k < P.length
  · rw [List.getElem?_range h, nthC_get h]; rfl
  · rw [List.getElem?_eq_none (by omega), List.getElem?_eq_none (by simp; omega)]; rfl
theorem kept_cmds (B : Nat → Nat) (P : List Pace.Cmd) (q : Pace.Cmd → Bool) :
    cells5of (fun k => .int .i64 (kdC (nthC P k))) (fun k => .pointer (some ⟨B (nthC P k).flow, 0, none⟩)) (fun k => .int .i64 (rC (nthC P k))) (fun k => .int .i64 (buC (nthC P k))) (fun k => .int .i64 (lC (nthC P k))) (keptN (fun k => q (nthC P k)) P.length) = cmdsC B (P.filter fun c => !q c) ∧
    (keptN (fun k => q (nthC P k)) P.length).length = (P.filter fun c => !q c).length := by
  have e : P.filter (fun c => !q c) = (keptN (fun k => q (nthC P k)) P.length).map (nthC P) := by
    conv => lhs; rw [range_nth P]
    rw [List.filter_map]
    rfl
  refine ⟨?_, by rw [e, List.length_map]⟩
  rw [e]
  unfold cells5of cmdsC
  rw [List.flatMap_map]
  exact flat_congr fun k _ => (cmdC_eq B (nthC P k)).symm
theorem leastIn_append (f : Nat) : ∀ (m : Option Nat) (a b : List Pace.Cmd), Pace.leastIn f m (a ++ b) = Pace.leastIn f (Pace.leastIn f m a) b
  | m, [], b => rfl
  | m, .set g r u l :: a, b => leastIn_append f _ a b
  | m, .add g r u :: a, b => leastIn_append f m a b
  | m, .enq g :: a, b => leastIn_append f m a b
/-- The least so far. -/
def lst (bu n : Nat) (P : List Pace.Cmd) (k : Nat) : Nat := Pace.leastOf bu (Pace.leastIn n none (P.take k))
theorem lst_zero (bu n : Nat) (P : List Pace.Cmd) : lst bu n P 0 = bu := rfl
theorem lst_succ {bu n k : Nat} {P : List Pace.Cmd} (hk : k < P.length) : lst bu n P (k + 1) = if Pace.isSet n (nthC P k) = true then min (lst bu n P k) (lC (nthC P k)).toNat else lst bu n P k := by
  unfold lst
  rw [take_nth hk, leastIn_append]
  cases nthC P k with
  | add g r u => rfl
  | enq g => rfl
  | set g r u l =>
    by_cases e : g = n
    · subst e
      simp only [Pace.leastIn, Pace.isSet, if_true, beq_self_eq_true, lC]
      cases Pace.leastIn g none (P.take k) with
      | none => simp [Pace.leastOf]
      | some j => simp only [Pace.leastOf]; simp; omega
    · simp [Pace.leastIn, Pace.isSet, e]
theorem PB.pendC {w w' : World} {b q ck nw : Nat} {fv pv : Value} {wb : Nat} {c : Cn} (h : PB w b q ck nw fv pv wb c) (hc : Ch w w' (fun a o => a = b ∧ o = 4)) {pv' : Value} (h4 : w'.cell? ⟨b, 4, none⟩ = some pv') : PB w' b q ck nw fv pv' wb c := by
  have hcc : ∀ o, o ≠ 4 → w'.cell? ⟨b, o, none⟩ = w.cell? ⟨b, o, none⟩ := fun o ho => hc.cell b o fun q => ho q.2
  exact ⟨by rw [hcc _ (by omega)]; exact h.c0, by rw [hcc _ (by omega)]; exact h.c1, by rw [hcc _ (by omega)]; exact h.c2, by rw [hcc _ (by omega)]; exact h.c3, h4, by rw [hcc _ (by omega)]; exact h.c5, by rw [hcc _ (by omega)]; exact h.c6, by rw [hcc _ (by omega)]; exact h.c7, by rw [hcc _ (by omega)]; exact h.c8, by rw [hcc _ (by omega)]; exact h.c9, by rw [hcc _ (by omega)]; exact h.c10, by rw [hcc _ (by omega)]; exact h.c11, by rw [hcc _ (by omega)]; exact h.c12, by rw [hcc _ (by omega)]; exact h.c13, by rw [hcc _ (by omega)]; exact h.c14, by rw [hcc _ (by omega)]; exact h.c15⟩
theorem pm_pushC {w w4 w' : World} {b : Nat} {y : Lay} {s : Pace.St} {nw : Nat} {P : List Pace.Cmd} {c : Cn} (h : PM w b y s nw P c) (cm : Pace.Cmd) {o : Obj} {pv' : Value} (hr : w4.ownsRow 0 161 5 pv' (P.length + 1) (cmdsC y.B P ++ cmdC y.B cm)) (hg : Gr (w.alloc o) w4 y.pv pv') (hc : Ch w4 w' (fun a o => a = b ∧ o = 4)) (h4 : w'.cell? ⟨b, 4, none⟩ = some pv') :
    ∃ y', PM w' b y' s nw (P ++ [cm]) c ∧ Step w w' y y' ∧ y'.B = y.B := by
  have hfr0 : Fr w (w.alloc o) (fun k => k = b ∨ y.pv.ownBlock = some k) := (Fr.refl _ _).alloc o
  have hb : b < w.heap.size := h.lt b h.ow
  have hb4 : w4.heap[b]? = w.heap[b]? := by
    refine (hg.fr.blk b (by simp; omega) (pv_ne_b h)).trans ?_
    exact Below.heap_alloc _ _ _ (by omega)
  have hPB4 : PB w4 b s.q s.clock nw y.fv y.pv y.wb c := h.pb.kept hb4
  have hfr : Fr w w' (fun k => k = b ∨ y.pv.ownBlock = some k) := (hfr0.trans hg.fr fun k _ q => .inr q).trans (hc.fr2 (O := fun k => k = b) fun a o q => q.1) fun k _ q => .inl q
  have hsz : (w.alloc o).heap.size = w.heap.size + 1 := by simp
  have hnew : ∀ g, pv'.ownBlock = some g → y.pv.ownBlock = some g ∨ w.heap.size ≤ g := fun g hgg => by
    rcases hg.new hgg with q | q
    · exact .inl q
    · exact .inr (by omega)
  refine h.pendG (P' := P ++ [cm]) hfr (fun o' => by rw [hc.fz, frozen_of hb4]; exact h.fz o') (hPB4.pendC hc h4) ?_ hnew
  rw [List.length_append, List.length_singleton, cmdsC_snoc]
  refine row_kept0 hr fun g hgg => hc.blk g fun o' q => ?_
  have e' : g = b := q.1
  rcases hnew g hgg with q | q
  · rw [e'] at q; exact pv_ne_b h q
  · omega
theorem row_uniq {w : World} {n0 e sz n n' : Nat} {v : Value} {xs xs' : List Value} (h : w.ownsRow n0 e sz v n xs) (h' : w.ownsRow n0 e sz v n' xs') : n = n' ∧ xs = xs' := by
  rcases h.2 with ⟨q1, q2⟩ | ⟨g, cap, cur, q1, q2, q3, q4, q5, q6, q7⟩ <;> rcases h'.2 with ⟨r1, r2⟩ | ⟨g', cap', cur', r1, r2, r3, r4, r5, r6, r7⟩
  · subst q2; subst r2
    have a1 := h.1; have a2 := h'.1
    simp at a1 a2
    exact ⟨rfl, by rw [a1, a2]⟩
  · rw [q1] at r1; cases r1
  · rw [q1] at r1; cases r1
  · rw [q1] at r1
    injection r1 with r1 r1b r1c
    injection r1 with r1
    injection r1 with r1
    subst r1; subst r1b
    rw [q3] at r3
    injection r3 with r3
    injection r3 with r3
    subst r3
    exact ⟨rfl, by rw [← q7, ← r7]⟩
end Go.Proofs.YtogdekjklbbbiaaGreatDoor
