import Derived.Test.YtogdekjklbbbiaaGreatDoorZ36
set_option maxRecDepth 100000
namespace Go.Proofs.YtogdekjklbbbiaaGreatDoor
open Go.ChangeShapes Go.WideShapes Go.ChangeAt Go.RowKit
set_option linter.unusedSimpArgs false
set_option linter.unusedVariables false

def setR (p : Pace.PS) (f r bu : Int) : Int :=
  match lookI p.st.fl f with
  | none => 5
  | some x => if Pace.allowed r bu then 0 else 6
def setP (p : Pace.PS) (f r bu : Int) : Pace.PS := if setR p f r bu = 0 then p.set f.toNat r.toNat bu.toNat else p
/-- What stands in the midst of a DeleteFunc of pendSet. -/
structure SR (w : World) (y : Lay) (x : Nat) (r bu : Int) (l : Nat) (W : World) : Prop where
  sz : w.heap.size + 2 ≤ W.heap.size
  z : W.heap[w.heap.size]? = some (.cells #[.pointer (some ⟨x, 0, none⟩)] 159)
  nx : W.heap[w.heap.size + 1]? = some (.cells #[.int .i64 1, .pointer (some ⟨x, 0, none⟩), .int .i64 r, .int .i64 bu, .int .i64 (l : Int)] 161)
  fl : ∀ k m, y.tag k = .flow m → W.heap[k]? = w.heap[k]?
theorem SR.fr {w : World} {y : Lay} {x : Nat} {r bu : Int} {l : Nat} {W W' : World} (h : SR w y x r bu l W) {O : Nat → Prop} (hf : Fr W W' O) (hO : ¬ O w.heap.size ∧ ¬ O (w.heap.size + 1)) (ho : ∀ k m, y.tag k = .flow m → k < w.heap.size ∧ ¬ O k) : SR w y x r bu l W' := by
  have hsz := h.sz
  refine ⟨Nat.le_trans h.sz hf.size, (hf.blk _ (by omega) hO.1).trans h.z, (hf.blk _ (by omega) hO.2).trans h.nx, fun k m e => (hf.blk k (by have := (ho k m e).1; omega) (ho k m e).2).trans (h.fl k m e)⟩
/-- Set, of a flow that lives. -/
theorem pm_set {w : World} {b : Nat} {y : Lay} {s : Pace.St} {nw : Nat} {P : List Pace.Cmd} {c : Cn} (h : PM w b y s nw P c) (hi : Pace.PI s P) (h80 : P.length ≤ 80) {x : Pace.Fl} (hx : x ∈ s.fl) (r bu : Nat) (hb : bu ≤ 1000000) :
    Calls Tryz.prog 75 #[.pointer (some ⟨b, 0, none⟩), .pointer (some ⟨y.B x.num, 0, none⟩), .int .i64 (r : Int), .int .i64 (bu : Int)] w fun e w' => e = .returned (.tuple #[]) ∧ ∃ y', PM w' b y' s nw (P.filter (fun c => !Pace.isSet x.num c) ++ [.set x.num r bu (Pace.leastOf bu (Pace.leastIn x.num none P))]) c ∧ Step w w' y y' := by
  have hbl : b < w.heap.size := h.lt b h.ow
  have htx := h.tl x hx
  have hxl : y.B x.num < w.heap.size := h.lt _ (h.own_of htx (by simp))
  have hfl : ∀ k m, y.tag k = .flow m → k < w.heap.size := fun k m e => h.lt k (h.own_of e (by simp))
  have hls : lst bu x.num P P.length = Pace.leastOf bu (Pace.leastIn x.num none P) := by unfold lst; rw [List.take_length]
  generalize hW0 : ((w.alloc (.cells #[.pointer (some ⟨y.B x.num, 0, none⟩)] 159)).alloc (.cells #[.int .i64 1, .pointer (some ⟨y.B x.num, 0, none⟩), .int .i64 (r : Int), .int .i64 (bu : Int), .int .i64 (bu : Int)] 161)) = W0
  have hs0 : W0.heap.size = w.heap.size + 2 := by rw [← hW0]; simp
  have hfr0 : Fr w W0 (fun _ => False) := by rw [← hW0]; exact ((Fr.refl _ _).alloc _).alloc _
  have hz0 : W0.heap[w.heap.size]? = some (.cells #[.pointer (some ⟨y.B x.num, 0, none⟩)] 159) := by
    rw [← hW0, Below.heap_alloc _ _ _ (by simp)]
    exact heap_alloc_new _ _
  have hn0 : W0.heap[w.heap.size + 1]? = some (.cells #[.int .i64 1, .pointer (some ⟨y.B x.num, 0, none⟩), .int .i64 (r : Int), .int .i64 (bu : Int), .int .i64 (bu : Int)] 161) := by
    rw [← hW0]
    have := heap_alloc_new (w.alloc (.cells #[.pointer (some ⟨y.B x.num, 0, none⟩)] 159)) (.cells #[.int .i64 1, .pointer (some ⟨y.B x.num, 0, none⟩), .int .i64 (r : Int), .int .i64 (bu : Int), .int .i64 (bu : Int)] 161)
    simpa using this
  have hSR0 : SR w y (y.B x.num) (r : Int) (bu : Int) bu W0 := ⟨by omega, hz0, hn0, fun k m e => hfr0.blk k (hfl k m e) (fun q => q)⟩
  -- what DeleteFunc does
  have hDel : Calls Tryz.prog 81 #[y.pv, .func (.func 120) #[] #[.pointer (some ⟨w.heap.size, 0, none⟩), .pointer (some ⟨w.heap.size + 1, 0, none⟩)]] W0 fun e w' => ∃ v', e = .returned v' ∧
      (w'.ownsRow 0 161 5 v' (P.filter fun c => !Pace.isSet x.num c).length (cmdsC y.B (P.filter fun c => !Pace.isSet x.num c)) ∧ v'.ownBlock = y.pv.ownBlock ∧ SR w y (y.B x.num) (r : Int) (bu : Int) (lst bu x.num P P.length) w' ∧ Fr w w' (fun k => y.pv.ownBlock = some k)) := by
    rcases h.rp.2 with ⟨q1, q2⟩ | ⟨g, cap, cur, q1, _, q3, q4, q5, q6, q7⟩
    · have hP : P = [] := List.length_eq_zero_iff.1 q2
      subst hP
      rw [q1]
      refine (delf78_nil _ _ none 0 W0).mono ?_
      rintro e w' ⟨rfl, hf⟩
      refine ⟨_, rfl, World.ownsRow_nil _ _ _ _, rfl, hSR0.fr hf ⟨fun q => q, fun q => q⟩ (fun k m e => ⟨hfl k m e, fun q => q⟩), (hfr0.trans hf fun _ _ q => q.elim).weak fun _ _ q => q.elim⟩
    · have hgt : y.tag g = .rowP := h.tp g (by rw [q1]; rfl)
      have hgl : g < w.heap.size := h.lt g (h.own_of hgt (by simp))
      have hgo : y.pv.ownBlock = some g := by rw [q1]; rfl
      by_cases hP0 : P.length = 0
      · have hP : P = [] := List.length_eq_zero_iff.1 hP0
        subst hP
        rw [q1]
        refine (delf78_nil _ _ (some ⟨g, 0, none⟩) cap W0).mono ?_
        rintro e w' ⟨rfl, hf⟩
        refine ⟨_, rfl, ?_, rfl, hSR0.fr hf ⟨fun q => q, fun q => q⟩ (fun k m e => ⟨hfl k m e, fun q => q⟩), (hfr0.trans hf fun _ _ q => q.elim).weak fun _ _ q => q.elim⟩
        have := row_kept0 h.rp fun g' hg' => (hfr0.trans hf (fun _ _ q => q.elim)).blk g' (h.rp.lt g' hg').2 (fun q => q)
        rw [q1] at this
        exact this
      · rw [q1]
        have hg0 : W0.heap[g]? = some (.cells cur 161 (0, 0)) := (hfr0.blk g hgl fun q => q).trans q3
        refine (delf78_walk g cap P.length ⟨w.heap.size, 0, none⟩ ⟨w.heap.size + 1, 0, none⟩ cur (fun k => kdC (nthC P k)) (fun k => rC (nthC P k)) (fun k => buC (nthC P k)) (fun k => lC (nthC P k)) (fun k => y.B (nthC P k).flow) (fun k => Pace.isSet x.num (nthC P k)) (fun k => k = w.heap.size + 1) W0 (fun k W => SR w y (y.B x.num) (r : Int) (bu : Int) (lst bu x.num P k) W) (by omega) (by omega) q4 q5 hSR0 (fun z hz => by omega) (by omega) hg0 q6 ?_ ?_ ?_ ?_).mono ?_
        · intro k hk
          have hg := nthC_get hk
          have hcm := cmdC_eq y.B (nthC P k)
          have hget : ∀ j v, (cmdC y.B (nthC P k))[j]? = some v → cur[k * 5 + j]? = some v := fun j v hj => by
            have := cmdsC_get y.B P k _ j v hg hj
            rw [← q7, List.getElem?_take] at this
            split at this
            · simpa using this
            · cases this
          exact ⟨hget 0 _ (by rw [hcm]; rfl), hget 1 _ (by rw [hcm]; rfl), hget 2 _ (by rw [hcm]; rfl), hget 3 _ (by rw [hcm]; rfl), hget 4 _ (by rw [hcm]; rfl)⟩
        · intro k W o hR
          exact hR.fr (O := fun _ => False) ((Fr.refl _ _).alloc o) ⟨fun q => q, fun q => q⟩ (fun k m e => ⟨hfl k m e, fun q => q⟩)
        · intro k W W' hR hsz hj hsz' ho ht hu
          refine hR.fr (O := fun z => z = g) ⟨ho, ht, hu, by omega, fun z _ hz => hj z hz⟩ ⟨by omega, by omega⟩ (fun z m e => ⟨hfl z m e, fun q => ?_⟩)
          rw [q, hgt] at e; cases e
        · intro k W hR hk
          have hlv := hi.live (nthC P k) (List.mem_of_getElem? (nthC_get hk))
          obtain ⟨xf, hxf, hxn⟩ := hlv
          have htf := h.tl xf hxf
          rw [hxn] at htf
          have hcellx : ∀ z m, y.tag z = .flow m → (∃ f ∈ s.fl, y.B f.num = z) → (∃ v, W.cell? ⟨z, 0, none⟩ = some v) ∧ ∀ o, W.frozen? ⟨z, o, none⟩ = false := by
            rintro z m e ⟨f, hf, rfl⟩
            have hFf := h.fl f hf
            have hb := hR.fl _ m e
            exact ⟨⟨_, (World.cell?_of_block (w := w) (a := ⟨y.B f.num, 0, none⟩) hb).trans hFf.c0⟩, fun o => (frozen_of hb o).trans (hFf.fz o)⟩
          have hzc : W.cell? ⟨w.heap.size, 0, none⟩ = some (.pointer (some ⟨y.B x.num, 0, none⟩)) := by rw [heap_cell hR.z]; rfl
          have hls1 := lst_succ (bu := bu) (n := x.num) hk
          show Calls Tryz.prog 120 #[.agg #[.int .i64 (kdC (nthC P k)), .pointer (some ⟨y.B (nthC P k).flow, 0, none⟩), .int .i64 (rC (nthC P k)), .int .i64 (buC (nthC P k)), .int .i64 (lC (nthC P k))], _, _] W fun e w' => e = .returned (.bool (Pace.isSet x.num (nthC P k))) ∧ _
          have hall : ∀ o, SR w y (y.B x.num) (r : Int) (bu : Int) (lst bu x.num P k) (W.alloc o) := fun o => hR.fr (O := fun _ => False) ((Fr.refl _ _).alloc o) ⟨fun q => q, fun q => q⟩ (fun k m e => ⟨hfl k m e, fun q => q⟩)
          have hfa : ∀ o, Fr W (W.alloc o) (fun k => k = w.heap.size + 1) := fun o => (Fr.refl _ _).alloc o
          generalize hcm : nthC P k = cm at hls1 htf hxn ⊢
          cases cm with
          | add g' r' u' =>
            refine (clo78_other _ _ _ _ _ _ _ W (by simp [kdC])).mono ?_
            rintro e w' ⟨rfl, rfl⟩
            rw [hls1]
            exact ⟨rfl, hall _, hfa _⟩
          | enq g' =>
            refine (clo78_other _ _ _ _ _ _ _ W (by simp [kdC])).mono ?_
            rintro e w' ⟨rfl, rfl⟩
            rw [hls1]
            exact ⟨rfl, hall _, hfa _⟩
          | set g' r' u' l' =>
            by_cases e : g' = x.num
            · subst e
              have hok := hi.ok _ (List.mem_of_getElem? (nthC_get hk))
              rw [hcm] at hok
              have hny : W.cell? ⟨w.heap.size + 1, 4, none⟩ = some (.int .i64 ((lst bu x.num P k : Nat) : Int)) := by rw [heap_cell hR.nx]; rfl
              refine (clo78_eq (y.B x.num) w.heap.size (w.heap.size + 1) r' u' l' ((lst bu x.num P k : Nat) : Int) W hzc hny (fz_cells hR.nx 4)).mono ?_
              rintro e w' ⟨rfl, hf, hy'⟩
              have hsetb : Pace.isSet x.num (.set x.num r' u' l') = true := by simp [Pace.isSet]
              rw [hls1, if_pos hsetb]
              have hsz := hR.sz
              refine ⟨by rw [hsetb], ⟨Nat.le_trans hR.sz hf.size, (hf.blk _ (by omega) (by omega)).trans hR.z, ?_, fun z m e => (hf.blk z (by have := hfl z m e; omega) (by have := hfl z m e; omega)).trans (hR.fl z m e)⟩, hf⟩
              rw [hy', set1 hR.nx]
              have : (min ((lst bu x.num P k : Nat) : Int) ((l' : Nat) : Int)) = ((min (lst bu x.num P k) (lC (.set x.num r' u' l')).toNat : Nat) : Int) := by simp only [lC]; omega
              rw [this]
              rfl
            · have hne : y.B g' ≠ y.B x.num := fun e' => by
                have h1 : y.tag (y.B g') = .flow g' := htf
                rw [e', htx] at h1
                injection h1 with h1
                exact e h1.symm
              have hxn' : xf.num = g' := hxn
              refine (clo78_ne (y.B g') (y.B x.num) w.heap.size (w.heap.size + 1) r' u' l' W hne hzc (hcellx _ g' htf ⟨xf, hxf, by rw [hxn']⟩) (hcellx _ _ htx ⟨x, hx, rfl⟩)).mono ?_
              rintro e w' ⟨rfl, rfl⟩
              have hsetb : Pace.isSet x.num (.set g' r' u' l') = false := by simp [Pace.isSet, e]
              rw [hls1, if_neg (by rw [hsetb]; simp)]
              exact ⟨by rw [hsetb], hall _, hfa _⟩
        · rintro e w' ⟨v', rfl, d1, d2, d3, d4, d5, d6, d7, d8⟩
          obtain ⟨k1, k2⟩ := kept_cmds y.B P (Pace.isSet x.num)
          rw [k1, k2] at d1
          refine ⟨v', rfl, d1, by rw [d2]; rfl, d3, ⟨d6.trans hfr0.os, d7.trans hfr0.tape, d8.trans hfr0.output, by omega, fun k hk hn => ?_⟩⟩
          have hkg : k ≠ g := fun e => hn (by rw [e]; rfl)
          exact (d4 k (by omega) (by omega) hkg).trans (hfr0.blk k hk fun q => q)
  have hlsle : lst bu x.num P P.length ≤ 1000000 := by
    unfold lst
    cases Pace.leastIn x.num none (P.take P.length) with
    | none => exact hb
    | some j => simp only [Pace.leastOf]; omega
  refine (pend_walk b (y.B x.num) (r : Int) (bu : Int) ((lst bu x.num P P.length : Nat) : Int) y.pv w (fun v1 w1 => w1.ownsRow 0 161 5 v1 (P.filter fun c => !Pace.isSet x.num c).length (cmdsC y.B (P.filter fun c => !Pace.isSet x.num c)) ∧ v1.ownBlock = y.pv.ownBlock ∧ SR w y (y.B x.num) (r : Int) (bu : Int) (lst bu x.num P P.length) w1 ∧ Fr w w1 (fun k => y.pv.ownBlock = some k)) h.pb.c4 (by rw [hW0]; exact hDel) ?_).mono ?_
  · rintro v1 w1 ⟨a1, a2, a3, a4⟩
    have hb1 : w1.heap[b]? = w.heap[b]? := a4.blk b hbl (pv_ne_b h)
    have hfl80 : (P.filter fun c => !Pace.isSet x.num c).length ≤ P.length := List.length_filter_le _ _
    exact ⟨_, _, a1, by omega, ⟨_, (World.cell?_of_block (w := w) (a := ⟨b, 4, none⟩) hb1).trans h.pb.c4⟩, (frozen_of hb1 4).trans (h.fz 4), a3.nx, by rw [a2]; exact pv_ne_b h, by omega⟩
  · rintro e w' ⟨rfl, v1, w1, n, px, v2, w3, ⟨a1, a2, a3, a4⟩, hr1, hr3, hG, hch, hc4⟩
    refine ⟨rfl, ?_⟩
    obtain ⟨u1, u2⟩ := row_uniq hr1 a1
    subst u1; subst u2
    have hb1 : w1.heap[b]? = w.heap[b]? := a4.blk b hbl (pv_ne_b h)
    have hPB1 : PB w1 b s.q s.clock nw y.fv y.pv y.wb c := h.pb.kept hb1
    have hfr1 : Fr w (w1.setCell ⟨b, 4, none⟩ v1) (fun k => k = b ∨ y.pv.ownBlock = some k) := (a4.weak fun k _ q => .inr q).trans (ch1 w1 b 4 v1) fun k _ q => .inl q
    have hrow : (w1.setCell ⟨b, 4, none⟩ v1).ownsRow 0 161 5 v1 (P.filter fun c => !Pace.isSet x.num c).length (cmdsC y.B (P.filter fun c => !Pace.isSet x.num c)) := row_kept0 hr1 fun g hg => Below.heap_setCell _ _ _ _ fun e => by
      have e' : g = b := e
      rw [a2, e'] at hg
      exact pv_ne_b h hg
    have hpv1 : ∀ g, v1.ownBlock = some g → y.pv.ownBlock = some g ∨ w.heap.size ≤ g := fun g hg => .inl (by rw [← a2]; exact hg)
    obtain ⟨y1, hP1, hs1, e1, e2⟩ := h.pendG2 (P' := P.filter fun c => !Pace.isSet x.num c) (c' := c) hfr1 (fun o => by rw [World.frozen?_setCell, frozen_of hb1]; exact h.fz o) (hPB1.pend v1) hrow hpv1
    obtain ⟨y2, hP2, hs2, _⟩ := pm_pushC hP1 (.set x.num r bu (lst bu x.num P P.length)) (pv' := v2) (by
      rw [e1]
      exact hr3) (by rw [e2]; exact hG) hch hc4
    rw [hls] at hP2
    exact ⟨y2, hP2, hs1.trans hs2⟩
/-- Set. -/
theorem pa_set {w : World} {b : Nat} {y : Lay} {p : Pace.PS} {c : Cn} (h : PA w b y p c) (f r bu : Int) :
    Calls Tryz.prog 29 #[.pointer (some ⟨b, 0, none⟩), .int .i64 f, .int .i64 r, .int .i64 bu] w fun e w' => e = .returned (.int .i64 (setR p f r bu)) ∧ ∃ y', PA w' b y' (setP p f r bu) c ∧ Stp w w' y y' := by
  have hPA := h
  obtain ⟨P, hM, hI, hS, hSh⟩ := h
  have hV := pm_live hM hI.few f
  have hnd := hI.pi.wf.nums
  have h80 : P.length ≤ 80 := short80 hS.inv.pi hSh hI.few
  cases hl : lookI p.st.fl f with
  | none =>
    have hR : setR p f r bu = 5 := by unfold setR; rw [hl]
    unfold lookI at hl
    rw [hl] at hV
    refine (set_none b f r bu w hV).mono ?_
    rintro e w' ⟨rfl, rfl⟩
    refine ⟨by rw [hR], y, ?_, Stp.refl _ _⟩
    unfold setP
    rw [if_neg (by rw [hR]; omega)]; exact hPA
  | some x =>
    obtain ⟨hx, hxf, hlk, hft⟩ := lookI_some hl hnd
    have hl' := hl
    unfold lookI at hl
    rw [hl] at hV
    have hV : Calls Tryz.prog 68 #[.pointer (some ⟨b, 0, none⟩), .int .i64 f] w fun e w' => w' = w ∧ e = .returned (liveV (some (y.B x.num))) := hV
    by_cases hal : Pace.allowed r bu
    · have hR : setR p f r bu = 0 := by unfold setR; rw [hl']; simp only; rw [if_pos hal]
      obtain ⟨a1, a2, a3, a4⟩ := hal
      have hps := pm_set hM hS.inv.pi h80 hx r.toNat bu.toNat (by omega)
      rw [show ((r.toNat : Nat) : Int) = r by omega, show ((bu.toNat : Nat) : Int) = bu by omega] at hps
      refine (set_good b (y.B x.num) f r bu w _ hV ⟨a1, a2, a3, a4⟩ hps).mono ?_
      rintro e w' ⟨rfl, y', hP', hs'⟩
      refine ⟨by rw [hR], y', ?_, hs'.stp⟩
      unfold setP
      rw [if_pos hR, hft]
      have hex : ∃ z ∈ p.st.fl, z.num = x.num := ⟨x, hx, rfl⟩
      exact ⟨_, hP', hI.set hex (by omega) (by omega), hS.set hex (by omega) (by omega), hSh.set _ _ _ _⟩
    · have hR : setR p f r bu = 6 := by unfold setR; rw [hl']; simp only; rw [if_neg hal]
      refine (set_rate b (y.B x.num) f r bu w hV hal).mono ?_
      rintro e w' ⟨rfl, rfl⟩
      refine ⟨by rw [hR], y, ?_, Stp.refl _ _⟩
      unfold setP
      rw [if_neg (by rw [hR]; omega)]; exact hPA
/-- Add, and what it answers. -/
def addR (p : Pace.PS) (r bu : Int) : Int := if Pace.allowed r bu then if p.st.fl.length = 8 then 7 else 0 else 6
def addN (p : Pace.PS) (r bu : Int) : Int := if addR p r bu = 0 then (p.newest : Int) + 1 else 0
def addP (p : Pace.PS) (r bu : Int) : Pace.PS := if addR p r bu = 0 then p.add r.toNat bu.toNat else p
theorem pa_addR {w : World} {b : Nat} {y : Lay} {p : Pace.PS} {c : Cn} (h : PA w b y p c) (hnw : p.newest < 8000000000000000000) (r bu : Int) :
    Calls Tryz.prog 27 #[.pointer (some ⟨b, 0, none⟩), .int .i64 r, .int .i64 bu] w fun e w' => e = .returned (.tuple #[.int .i64 (addN p r bu), .int .i64 (addR p r bu)]) ∧ ∃ y', PA w' b y' (addP p r bu) c ∧ Stp w w' y y' := by
  have hPA := h
  obtain ⟨P, hM, hI, hS, hSh⟩ := h
  by_cases hal : Pace.allowed r bu
  · by_cases h8 : p.st.fl.length = 8
    · have hR : addR p r bu = 7 := by unfold addR; rw [if_pos hal, if_pos h8]
      obtain ⟨a, cc, hv⟩ := row_len hM.rf
      have hc3 := hM.pb.c3
      rw [hv, h8] at hc3
      refine (add_many b r bu a cc w hM.pb.c15 hc3 hal).mono ?_
      rintro e w' ⟨rfl, rfl⟩
      refine ⟨?_, y, ?_, Stp.refl _ _⟩
      · unfold addN; rw [hR, if_neg (by omega)]
      · unfold addP; rw [if_neg (by rw [hR]; omega)]; exact hPA
    · have hR : addR p r bu = 0 := by unfold addR; rw [if_pos hal, if_neg h8]
      have := hI.few
      refine (pa_add hPA hnw (by omega) r bu hal).mono ?_
      rintro e w' ⟨rfl, y', hP', hs'⟩
      refine ⟨?_, y', ?_, hs'⟩
      · unfold addN; rw [hR, if_pos rfl]
      · unfold addP; rw [if_pos hR]; exact hP'
  · have hR : addR p r bu = 6 := by unfold addR; rw [if_neg hal]
    refine (add_rate b r bu w hM.pb.c15 hal).mono ?_
    rintro e w' ⟨rfl, rfl⟩
    refine ⟨?_, y, ?_, Stp.refl _ _⟩
    · unfold addN; rw [hR, if_neg (by omega)]
    · unfold addP; rw [if_neg (by rw [hR]; omega)]; exact hPA
end Go.Proofs.YtogdekjklbbbiaaGreatDoor

namespace Go.Proofs.YtogdekjklbbbiaaGreatDoor
open Go.ChangeShapes Go.WideShapes Go.ChangeAt Go.RowKit
set_option linter.unusedSimpArgs false
set_option linter.unusedVariables false

/-- A flow is gone. -/
theorem PM.gone {w w' : World} {b : Nat} {y : Lay} {s : Pace.St} {nw n : Nat} {P P' : List Pace.Cmd} {c c' : Cn} {fv' pv' : Value} (h : PM w b y s nw P c) (hf : Fr w w' (fun k => k = b ∨ y.fv.ownBlock = some k ∨ y.pv.ownBlock = some k ∨ y.wo k)) (hfz : ∀ o, w'.frozen? ⟨b, o, none⟩ = false)
    (hPB : PB w' b s.q s.clock nw fv' pv' y.wb c') (hrf : w'.ownsRow 0 159 1 fv' (Pace.gone s.fl n).length ((Pace.gone s.fl n).map fun f => Value.pointer (some ⟨y.B f.num, 0, none⟩))) (hfv : fv'.ownBlock = y.fv.ownBlock) (hrp : w'.ownsRow 0 161 5 pv' P'.length (cmdsC y.B P')) (hpv : pv'.ownBlock = y.pv.ownBlock)
    (hwa : WA w' y.wb y.wo y.wn ((Pace.off s.A n).map fun a => (a.num, a.at'))) :
    ∃ y', PM w' b y' { s with fl := Pace.gone s.fl n, A := Pace.off s.A n } nw P' c' ∧ Step w w' y y' := by
  have hk : ∀ k t, y.tag k = t → t ≠ .none → t ≠ .self → t ≠ .rowF → t ≠ .rowP → t ≠ .wheel → w'.heap[k]? = w.heap[k]? := fun k t e h1 h2 h3 h4 h5 => hf.blk k (h.lt k (h.own_of e h1)) fun q => by
    rcases q with q | q | q | q
    · exact h2 (by rw [← e, q]; exact h.tb)
    · exact h3 (by rw [← e]; exact h.tf k q)
    · exact h4 (by rw [← e]; exact h.tp k q)
    · exact h5 (by rw [← e]; exact h.two k q)
  refine ⟨{ y with fv := fv', pv := pv' }, ⟨h.tb, h.t0, fun k hO => Nat.lt_of_lt_of_le (h.lt k hO) hf.size, hfz, hPB, hrf, fun g hg => h.tf g (by rw [← hfv]; exact hg), hrp, fun g hg => h.tp g (by rw [← hpv]; exact hg), hwa, h.two, h.wn, ?_, ?_, ?_, ?_, ?_⟩, ⟨?_, fun _ _ e => e⟩⟩
  · intro f hf'
    have q := (Pace.mem_gone.1 hf').1
    exact (h.fl f q).kept (hk _ _ (h.tl f q) (by simp) (by simp) (by simp) (by simp) (by simp)) fun g hg => hk g _ (h.tk f q g hg) (by simp) (by simp) (by simp) (by simp) (by simp)
  · intro f hf'; exact h.fc f (Pace.mem_gone.1 hf').1
  · intro f hf'; exact h.tl f (Pace.mem_gone.1 hf').1
  · intro f hf'; exact h.tk f (Pace.mem_gone.1 hf').1
  · intro a ha; exact h.ak a (Pace.mem_off.1 ha).1
  · exact hf.weak fun k _ q => by
      rcases q with q | q | q | q
      · rw [q]; exact h.ow
      · exact h.own_of (h.tf k q) (by simp)
      · exact h.own_of (h.tp k q) (by simp)
      · exact h.own_of (h.two k q) (by simp)
/-- What stands in the midst of a DeleteFunc of Remove. -/
structure ZR (w : World) (y : Lay) (x : Nat) (W : World) : Prop where
  sz : w.heap.size + 1 ≤ W.heap.size
  z : W.heap[w.heap.size]? = some (.cells #[.pointer (some ⟨x, 0, none⟩)] 159)
  fl : ∀ k m, y.tag k = .flow m → W.heap[k]? = w.heap[k]?
theorem ZR.fr {w : World} {y : Lay} {x : Nat} {W W' : World} (h : ZR w y x W) {O : Nat → Prop} (hf : Fr W W' O) (hO : ¬ O w.heap.size) (ho : ∀ k m, y.tag k = .flow m → k < w.heap.size ∧ ¬ O k) : ZR w y x W' := by
  have hsz := h.sz
  exact ⟨Nat.le_trans h.sz hf.size, (hf.blk _ (by omega) hO).trans h.z, fun k m e => (hf.blk k (by have := (ho k m e).1; omega) (ho k m e).2).trans (h.fl k m e)⟩
theorem gone_split {l : List Pace.Fl} {x : Pace.Fl} (hnd : (l.map (·.num)).Nodup) (hx : x ∈ l) : ∃ a r, l = a ++ x :: r ∧ Pace.gone l x.num = a ++ r := by
  obtain ⟨a, r, e⟩ := List.append_of_mem hx
  refine ⟨a, r, e, ?_⟩
  subst e
  simp only [List.map_append, List.map_cons] at hnd
  have hl : ∀ z ∈ a, z.num ≠ x.num := fun z hz e => (List.nodup_append.1 hnd).2.2 z.num (List.mem_map.2 ⟨z, hz, rfl⟩) x.num (List.mem_cons_self ..) e
  have hr : ∀ z ∈ r, z.num ≠ x.num := fun z hz e => (List.nodup_cons.1 (List.nodup_append.1 hnd).2.1).1 (by rw [← e]; exact List.mem_map.2 ⟨z, hz, rfl⟩)
  unfold Pace.gone
  rw [List.filter_append, List.filter_cons, if_neg (by simp)]
  congr 1
  · rw [List.filter_eq_self]; intro z hz; simpa using hl z hz
  · rw [List.filter_eq_self]; intro z hz; simpa using hr z hz
/-- DeleteFunc of Remove. -/
theorem pm_delf {w W0 : World} {b : Nat} {y : Lay} {s : Pace.St} {nw : Nat} {P : List Pace.Cmd} {c : Cn} (h : PM w b y s nw P c) (hi : Pace.PI s P) (h80 : P.length ≤ 80) {x : Pace.Fl} (hx : x ∈ s.fl) {O : Nat → Prop} (hfr : Fr w W0 O) (hO : ∀ k, O k → k = b ∨ y.tag k = .rowF) (hZ : ZR w y (y.B x.num) W0) :
    Calls Tryz.prog 81 #[y.pv, .func (.func 82) #[] #[.pointer (some ⟨w.heap.size, 0, none⟩)]] W0 fun e w' => ∃ v', e = .returned v' ∧
      (w'.ownsRow 0 161 5 v' (P.filter fun c => decide (c.flow ≠ x.num)).length (cmdsC y.B (P.filter fun c => decide (c.flow ≠ x.num))) ∧ v'.ownBlock = y.pv.ownBlock ∧ ZR w y (y.B x.num) w' ∧ Fr W0 w' (fun k => y.pv.ownBlock = some k)) := by
  have hfl : ∀ k m, y.tag k = .flow m → k < w.heap.size := fun k m e => h.lt k (h.own_of e (by simp))
  have htx := h.tl x hx
  have hff : (fun c : Pace.Cmd => !(c.flow == x.num)) = fun c => decide (c.flow ≠ x.num) := by
    funext c
    by_cases e : c.flow = x.num <;> simp [e]
  have hrow0 : W0.ownsRow 0 161 5 y.pv P.length (cmdsC y.B P) := row_kept0 h.rp fun g hg => hfr.blk g (h.rp.lt g hg).2 fun q => by
    have h1 := h.tp g hg
    rcases hO g q with q | q
    · rw [q, h.tb] at h1; cases h1
    · rw [q] at h1; cases h1
  rcases hrow0.2 with ⟨q1, q2⟩ | ⟨g, cap, cur, q1, _, q3, q4, q5, q6, q7⟩
  · have hP : P = [] := List.length_eq_zero_iff.1 q2
    subst hP
    rw [q1]
    refine (delf55_nil _ none 0 W0).mono ?_
    rintro e w' ⟨rfl, hf⟩
    exact ⟨_, rfl, World.ownsRow_nil _ _ _ _, rfl, hZ.fr hf (fun q => q) (fun k m e => ⟨hfl k m e, fun q => q⟩), hf.weak fun _ _ q => q.elim⟩
  · have hgt : y.tag g = .rowP := h.tp g (by rw [q1]; rfl)
    have hgl : g < w.heap.size := h.lt g (h.own_of hgt (by simp))
    by_cases hP0 : P.length = 0
    · have hP : P = [] := List.length_eq_zero_iff.1 hP0
      subst hP
      have hrow1 := hrow0
      rw [q1] at hrow1 ⊢
      refine (delf55_nil _ (some ⟨g, 0, none⟩) cap W0).mono ?_
      rintro e w' ⟨rfl, hf⟩
      exact ⟨_, rfl, row_kept0 hrow1 fun g' hg' => hf.blk g' (hrow1.lt g' hg').2 fun q => q, rfl, hZ.fr hf (fun q => q) (fun k m e => ⟨hfl k m e, fun q => q⟩), hf.weak fun _ _ q => q.elim⟩
    · rw [q1]
      refine (delf55_walk g cap P.length ⟨w.heap.size, 0, none⟩ cur (fun k => kdC (nthC P k)) (fun k => rC (nthC P k)) (fun k => buC (nthC P k)) (fun k => lC (nthC P k)) (fun k => y.B (nthC P k).flow) (fun k => (nthC P k).flow == x.num) (fun _ => False) W0 (fun k W => ZR w y (y.B x.num) W) (by omega) (by omega) q4 q5 hZ (fun z hz => hz.elim) (fun q => q) q3 q6 ?_ ?_ ?_ ?_).mono ?_
      · intro k hk
        have hg := nthC_get hk
        have hcm := cmdC_eq y.B (nthC P k)
        have hget : ∀ j v, (cmdC y.B (nthC P k))[j]? = some v → cur[k * 5 + j]? = some v := fun j v hj => by
          have := cmdsC_get y.B P k _ j v hg hj
          rw [← q7, List.getElem?_take] at this
          split at this
          · simpa using this
          · cases this
        exact ⟨hget 0 _ (by rw [hcm]; rfl), hget 1 _ (by rw [hcm]; rfl), hget 2 _ (by rw [hcm]; rfl), hget 3 _ (by rw [hcm]; rfl), hget 4 _ (by rw [hcm]; rfl)⟩
      · intro k W o hR
        exact hR.fr (O := fun _ => False) ((Fr.refl _ _).alloc o) (fun q => q) (fun k m e => ⟨hfl k m e, fun q => q⟩)
      · intro k W W' hR hsz hj hsz' ho ht hu
        refine hR.fr (O := fun z => z = g) ⟨ho, ht, hu, by omega, fun z _ hz => hj z hz⟩ (by omega) (fun z m e => ⟨hfl z m e, fun q => ?_⟩)
        rw [q, hgt] at e; cases e
      · intro k W hR hk
        obtain ⟨xf, hxf, hxn⟩ := hi.live (nthC P k) (List.mem_of_getElem? (nthC_get hk))
        have htf := h.tl xf hxf
        have hcellx : ∀ f ∈ s.fl, (∃ v, W.cell? ⟨y.B f.num, 0, none⟩ = some v) ∧ ∀ o, W.frozen? ⟨y.B f.num, o, none⟩ = false := by
          intro f hf
          have hFf := h.fl f hf
          have hb := hR.fl _ _ (h.tl f hf)
          exact ⟨⟨_, (World.cell?_of_block (w := w) (a := ⟨y.B f.num, 0, none⟩) hb).trans hFf.c0⟩, fun o => (frozen_of hb o).trans (hFf.fz o)⟩
        have hzc : W.cell? ⟨w.heap.size, 0, none⟩ = some (.pointer (some ⟨y.B x.num, 0, none⟩)) := by rw [heap_cell hR.z]; rfl
        have hd : decide (y.B (nthC P k).flow = y.B x.num) = ((nthC P k).flow == x.num) := by
          by_cases e : (nthC P k).flow = x.num
          · simp [e]
          · have : y.B (nthC P k).flow ≠ y.B x.num := fun e' => by
              rw [hxn, e', htx] at htf
              injection htf with htf
              exact e htf.symm
            simp [e, this]
        have hc1 := hcellx xf hxf
        rw [hxn] at hc1
        refine (clo55 (y.B (nthC P k).flow) (y.B x.num) w.heap.size (kdC (nthC P k)) (rC (nthC P k)) (buC (nthC P k)) (lC (nthC P k)) W hzc hc1 (hcellx x hx)).mono ?_
        rintro e w' ⟨rfl, rfl⟩
        exact ⟨by rw [hd], hR.fr (O := fun _ => False) ((Fr.refl _ _).alloc _) (fun q => q) (fun k m e => ⟨hfl k m e, fun q => q⟩), (Fr.refl _ _).alloc _⟩
      · rintro e w' ⟨v', rfl, d1, d2, d3, d4, d5, d6, d7, d8⟩
        obtain ⟨k1, k2⟩ := kept_cmds y.B P (fun c => c.flow == x.num)
        rw [hff] at k1 k2
        rw [k1, k2] at d1
        exact ⟨v', rfl, d1, by rw [d2]; rfl, d3, ⟨d6, d7, d8, d5, fun k hk hn => d4 k hk (fun q => q) fun e => hn (by rw [e]; rfl)⟩⟩
end Go.Proofs.YtogdekjklbbbiaaGreatDoor
