import Derived.Test.YtogdekjklbbbiaaDoorBe
import Derived.Test.YtogdekjklbbbiaaDoorBgh
import Derived.Test.YtogdekjklbbbiaaDoorLd
set_option maxRecDepth 100000
namespace Go.Proofs.YtogdekjklbbbiaaDoor
open Go.ChangeShapes Go.WideShapes Go.ChangeAt Go.RowKit
set_option linter.unusedSimpArgs false
set_option linter.unusedVariables false

structure WQ (w wr : World) (b z k ck : Nat) (al : Option Addr) (m cl : Nat) (p : Pace.PS) (c : Cn) (y : Lay) (gt sz : Nat) (l : List (Nat × Nat)) (L : List Pace.En) (v : Nat → Value) (ga gb gy : Nat → Nat) : Prop where
  pa : PA wr b y p c
  fr : Fr w wr (fun _ => False)
  ow : ∀ k, y.own k → w.heap.size < k
  ck : p.st.clock = ck
  bd : Bd p c k
  nw : 2 * p.newest ≤ k + p.st.fl.length
  ll : L.length ≤ k
  ws : WS w wr z al m cl gt sz l L v ga gb gy y.own
  wt : Pace.Wt p l L
theorem WQ.next {w wr w' : World} {b z k ck : Nat} {al : Option Addr} {m cl : Nat} {p : Pace.PS} {c : Cn} {y y' : Lay} {gt sz : Nat} {l : List (Nat × Nat)} {L : List Pace.En} {v : Nat → Value} {ga gb gy : Nat → Nat} (h : WQ w wr b z k ck al m cl p c y gt sz l L v ga gb gy) (ob : Obj) (hs : Stp (wr.alloc ob) w' y y') :
    Fr w w' (fun _ => False) ∧ (∀ k, y'.own k → w.heap.size < k) ∧ WS w w' z al m cl gt sz l L v ga gb gy y'.own ∧ w'.heap[wr.heap.size]? = some ob ∧ wr.heap.size < w'.heap.size := by
  have hsz : (wr.alloc ob).heap.size = wr.heap.size + 1 := by simp
  have hws : WS w (wr.alloc ob) z al m cl gt sz l L v ga gb gy y.own := h.ws.kept ((Fr.refl wr _).alloc ob) (fun _ _ q => q)
  have hfs := h.fr.size
  have hs2 := hs.fr.size
  refine ⟨(h.fr.alloc ob).trans hs.fr fun k hk q => by have := h.ow k q; omega, fun k hk => ?_, hws.kept hs.fr fun k hk q => hs.own hk q, ?_, by omega⟩
  · rcases Nat.lt_or_ge k (wr.alloc ob).heap.size with q | q
    · exact h.ow k (hs.own q hk)
    · omega
  · rw [hs.fr.blk wr.heap.size (by omega) fun q => by have := h.pa.olt _ q; omega]
    exact heap_alloc_new _ _
theorem addP_ok {p : Pace.PS} {r b : Int} (h : addR p r b = 0) : Pace.allowed r b ∧ p.st.fl.length ≠ 8 := by
  unfold addR at h
  by_cases ha : Pace.allowed r b
  · rw [if_pos ha] at h
    refine ⟨ha, fun e => ?_⟩
    rw [if_pos e] at h; omega
  · rw [if_neg ha] at h; omega
theorem setP_ok {p : Pace.PS} {f r b : Int} (h : setR p f r b = 0) : Pace.allowed r b ∧ ∃ x, lookI p.st.fl f = some x := by
  unfold setR at h
  split at h
  · omega
  · rename_i x hx
    by_cases ha : Pace.allowed r b
    · exact ⟨ha, x, hx⟩
    · rw [if_neg ha] at h; omega
set_option maxHeartbeats 2000000 in
theorem watch_any (q : Int) (sa : Option Addr) (n cp : Nat) (w : World) (hz : 0 < w.heap.size) (hT : TabW w) (hb : n < 8796093022208) (hsa : 0 < n → ∃ g o, sa = some ⟨g, o, none⟩) (op : Nat → OpV)
    (hC : ∀ k, k < n → ∀ g o, sa = some ⟨g, o, none⟩ → w.cell? ⟨g, o + k * 6, none⟩ = some (.int .i64 (op k).k) ∧ w.cell? ⟨g, o + k * 6 + 1, none⟩ = some (.int .i64 (op k).a) ∧ w.cell? ⟨g, o + k * 6 + 2, none⟩ = some (.int .i64 (op k).b) ∧ w.cell? ⟨g, o + k * 6 + 3, none⟩ = some (.int .i64 (op k).c) ∧ w.cell? ⟨g, o + k * 6 + 4, none⟩ = some (.int .i64 (op k).w) ∧ w.cell? ⟨g, o + k * 6 + 5, none⟩ = some (.slice (op k).sa (op k).sn (op k).sc)) :
    Calls Tryd.prog 18 #[.int .i64 q, .slice sa n cp] w fun e w' => ∃ T a0 c0 a1 c1 a2 c2 a3 c3 ra rb ry rc bc yc E L, e = .returned (.tuple #[.agg #[.slice a0 T c0, .slice a1 T c1, .slice a2 T c2, .slice a3 T c3], .bool true]) ∧ T < 8796093022208 ∧ SV w' T a0 a1 a2 a3 ra rb ry rc bc yc E ∧ ER T E L ∧ (∀ i, i < T → (E i).n < 8796093022208) ∧ ∀ w'', Below w'.heap.size w' w'' → Fr w w'' (fun _ => False) := by
  have hTr : ∀ {wr : World}, Fr w wr (fun _ => False) → TabW wr := fun hf => hT.fr hf (fun q => q) hz
  refine (watch_walk q sa n cp w hb hsa op
    (fun w' => Fr w w' (fun _ => False) ∧ w'.heap[w.heap.size]? = some seen0)
    (fun b w' => ∃ y, PA w' b y (Pace.PS.new q.toNat) ⟨0, 0, 0, 0, 0, 0⟩ ∧ Fr w w' (fun _ => False) ∧ (∀ k, y.own k → w.heap.size < k) ∧ w'.heap[w.heap.size]? = some seen0)
    (fun b z k ck al m cl wr => k ≤ n ∧ ∃ p c y gt sz l L v ga gb gy, WQ w wr b z k ck al m cl p c y gt sz l L v ga gb gy)
    (fun b z k ck al m cl wr => k < n ∧ ∃ (p : Pace.PS) (c : Cn) (y : Lay) (gt sz : Nat) (l : List (Nat × Nat)) (L : List Pace.En) (v : Nat → Value) (ga gb gy : Nat → Nat) (r bu : Nat), (op k).a = (r : Int) ∧ (op k).b = (bu : Int) ∧ r ≤ 1000000000 ∧ bu ≤ 1000000 ∧ PA wr b y (p.add r bu) c ∧ p.Inv ∧ p.st.fl.length < 8 ∧ Fr w wr (fun _ => False) ∧ (∀ k, y.own k → w.heap.size < k) ∧ p.st.clock = ck ∧ Bd (p.add r bu) c (k + 1) ∧ 2 * p.newest ≤ k + p.st.fl.length ∧ L.length ≤ k ∧ WS w wr z al m cl gt sz l L v ga gb gy y.own ∧ Pace.Wt p l L)
    (fun b z k ck al m cl wr => k < n ∧ ∃ (p : Pace.PS) (c : Cn) (y : Lay) (gt sz : Nat) (l : List (Nat × Nat)) (L : List Pace.En) (v : Nat → Value) (ga gb gy : Nat → Nat) (f r bu : Nat), (op k).a = (f : Int) + 1 ∧ (op k).b = (r : Int) ∧ (op k).c = (bu : Int) ∧ r ≤ 1000000000 ∧ bu ≤ 1000000 ∧ f < m ∧ p.Inv ∧ PA wr b y (p.set (f + 1) r bu) c ∧ Fr w wr (fun _ => False) ∧ (∀ k, y.own k → w.heap.size < k) ∧ p.st.clock = ck ∧ Bd p c (k + 1) ∧ 2 * p.newest ≤ k + p.st.fl.length ∧ L.length ≤ k ∧ WS w wr z al m cl gt sz l L v ga gb gy y.own ∧ Pace.Wt p l L)
    (fun b z k ck al m cl u wr => k < n ∧ ∃ (p : Pace.PS) (c : Cn) (y : Lay) (gt sz : Nat) (l : List (Nat × Nat)) (L : List Pace.En) (v : Nat → Value) (ga gb gy : Nat → Nat) (now B n0 : Nat), now ≤ 4000000000000000000 ∧ p.Inv ∧ PA wr b y (p.poll now B).2 c ∧ Fr w wr (fun _ => False) ∧ (∀ k, y.own k → w.heap.size < k) ∧ max p.st.clock now = ck ∧ Bd (p.poll now B).2 c (k + 1) ∧ 2 * p.newest ≤ k + p.st.fl.length ∧ L.length ≤ k ∧ WS w wr z al m cl gt sz l L v ga gb gy y.own ∧ Pace.Wt p l L ∧ BAi wr n0 (fun k => ¬ y.own k) ((p.poll now B).1.map up) u ∧ w.heap.size < n0 ∧ (0 < m → gt < n0) ∧ ∀ k, S4.own z v k → k < n0)
    (fun u w' => ∃ T a0 c0 a1 c1 a2 c2 a3 c3 ra rb ry rc bc yc E L, u = .agg #[.slice a0 T c0, .slice a1 T c1, .slice a2 T c2, .slice a3 T c3] ∧ T < 8796093022208 ∧ SV w' T a0 a1 a2 a3 ra rb ry rc bc yc E ∧ ER T E L ∧ (∀ i, i < T → (E i).n < 8796093022208) ∧ ∀ w'', Below w'.heap.size w' w'' → Fr w w'' (fun _ => False))
    ?_ ?_ ?_ ?_ ?_ ?_ ?_ ?_ ?_ ?_ ?_ ?_ ?_ ?_ ?_).mono ?_
  -- New
  · have hf0 : Fr w (w.alloc seen0) (fun _ => False) := (Fr.refl w _).alloc _
    have hsz : (w.alloc seen0).heap.size = w.heap.size + 1 := by simp
    by_cases hq : q < 1500 ∨ 1000000 < q
    · refine (new_bad q _ hq).mono ?_
      rintro e w' ⟨rfl, rfl⟩
      exact .inl ⟨rfl, hq, hf0, heap_alloc_new _ _⟩
    · refine (pa_new (w.alloc seen0) (by omega) q (by omega) (by omega)).mono ?_
      rintro e w' ⟨b, y, rfl, hP, hfr, hy⟩
      refine .inr ⟨b, rfl, y, hP, hf0.trans hfr (fun _ _ q => q), fun k hk => by have := hy k hk; omega, ?_⟩
      rw [hfr.blk _ (by omega) fun q => q]
      exact heap_alloc_new _ _
  -- no pacer
  · rintro w' ⟨hf, h4⟩
    refine ⟨h4, fun w'' hch => ⟨0, none, 0, none, 0, none, 0, none, 0, fun _ => none, fun _ => none, fun _ => none, fun _ => 0, fun _ => 0, fun _ => 0, fun _ => Pace.enD, [], rfl, by omega, ⟨fun i hi => by omega, fun i hi => by omega, fun i hi => by omega, fun i hi => by omega, fun i f hi => by omega, fun i f hi => by omega, fun i f hi => by omega⟩, ⟨rfl, fun i hi => by omega, fun i j _ hj => by omega, fun i hi => by omega, fun i d f hi => by omega, fun i hi => by omega, fun i hi => by omega⟩, fun i hi => by omega, fun w3 hB => ?_⟩⟩
    have h1 : Fr w w'' (fun _ => False) := hf.trans (hch.fr2 (O := fun a => a = w.heap.size) fun a o q => q) fun k hk q => by omega
    have h2 := h1.alloc seen0
    exact ⟨hB.os.trans h2.os, hB.tape.trans h2.tape, hB.output.trans h2.output, Nat.le_trans h2.size hB.size, fun k hk _ => (hB.block k (Nat.lt_of_lt_of_le hk h2.size)).trans (h2.blk k hk fun q => q)⟩
  -- the start
  · rintro b w' ⟨y, hP, hf, hy, h4⟩
    have hlt : w.heap.size < w'.heap.size := (Array.getElem?_eq_some_iff.1 h4).1
    have hzz : (w'.alloc seen0).heap[w'.heap.size]? = some seen0 := heap_alloc_new _ _
    obtain ⟨hs1, hs2⟩ := seen_cells hzz
    refine ⟨Nat.zero_le _, Pace.PS.new q.toNat, ⟨0, 0, 0, 0, 0, 0⟩, y, 0, 0, [], [], fun _ => .slice none 0 0, fun _ => 0, fun _ => 0, fun _ => 0, ⟨hP.kept (O := fun _ => False) ((Fr.refl w' _).alloc _) (fun _ _ q => q), hf.alloc _, hy, rfl, ⟨Nat.le_refl _, Nat.le_refl _, Nat.le_refl _, Nat.le_refl _, Nat.le_refl _⟩, Nat.zero_le _, Nat.le_refl _, ?_, Pace.Wt.new _⟩⟩
    refine ⟨(Below.heap_alloc _ _ _ hlt).trans h4, fun q => by have := hy _ q; omega, rfl, fun _ => ⟨rfl, rfl⟩, fun h0 => by omega, ⟨fun h0 => by omega, fun o h0 => by omega, fun i hi => by omega, fun i hi => by omega, fun i hi => by omega, fun i hi => by omega, fun h0 => by omega⟩, fun h0 => by omega, ⟨(Array.getElem?_eq_some_iff.1 hzz).1, hs2, hs1, fun i _ => ?_, fun i _ q => (by cases q), fun i j _ _ _ g hg => (by cases hg)⟩, ?_, fun i hi => by simp at hi, fun i hi => by simp at hi⟩
    · split <;> exact World.ownsRow_nil _ _ _ _
    · rintro k (rfl | ⟨i, _, q⟩)
      · exact ⟨fun q => by have := hP.olt _ q; omega, hlt, fun h0 => by omega⟩
      · cases q
  · rintro b z k ck al m cl wr ⟨_, p, c, y, gt, sz, l, L, v, ga, gb, gy, h⟩
    exact h.ws.z4
  -- the script's cells
  · rintro b z k ck al m cl wr ⟨_, p, c, y, gt, sz, l, L, v, ga, gb, gy, h⟩ hk
    refine ⟨by have := h.pa.inv.pi.wf.clock; have := h.ck; omega, fun g o e => ?_⟩
    have hcell := hC k hk g o e
    have hg : g < w.heap.size := World.block_lt_of_cell? _ _ hcell.1
    have hs : ∀ j, wr.cell? ⟨g, j, none⟩ = w.cell? ⟨g, j, none⟩ := fun j => World.cell?_of_block (w := w) (a := ⟨g, j, none⟩) (h.fr.blk g hg fun q => q)
    rw [hs, hs, hs, hs, hs, hs]
    exact hcell
  -- Add
  · rintro b z k ck al m cl wr ⟨_, p, c, y, gt, sz, l, L, v, ga, gb, gy, h⟩ hk h1
    have hPa := h.pa.kept (O := fun _ => False) ((Fr.refl wr _).alloc (op k).obj) (fun _ _ q => q)
    have hb1 := h.bd.nw; have hb2 := h.bd.tk; have hb3 := h.bd.rf; have hb4 := h.bd.sn; have hb5 := h.bd.dr
    refine (pa_addR hPa (by omega) (op k).a (op k).b).mono ?_
    rintro e w' ⟨rfl, y', hP', hs⟩
    obtain ⟨n1, n2, n3, n4, n5⟩ := h.next (op k).obj hs
    refine ⟨_, _, rfl, n4, ?_⟩
    by_cases hR : addR p (op k).a (op k).b = 0
    · obtain ⟨⟨a1, a2, a3, a4⟩, h8⟩ := addP_ok hR
      have hN : addN p (op k).a (op k).b = (p.newest : Int) + 1 := by unfold addN; rw [if_pos hR]
      have hPp : addP p (op k).a (op k).b = p.add (op k).a.toNat (op k).b.toNat := by unfold addP; rw [if_pos hR]
      rw [hPp] at hP'
      have hmn : m = p.newest := by rw [h.ws.len]; exact h.wt.len
      refine .inr ⟨hR, by rw [hN, hmn], hk, p, c, y', gt, sz, l, L, v, ga, gb, gy, (op k).a.toNat, (op k).b.toNat, by omega, by omega, by omega, by omega, hP', h.pa.inv, by have := h.pa.inv.few; omega, n1, n2, h.ck, ⟨by show p.newest + 1 ≤ k + 1; omega, by omega, by omega, by omega, by omega⟩, h.nw, h.ll, n3, h.wt⟩
    · have hPp : addP p (op k).a (op k).b = p := by unfold addP; rw [if_neg hR]
      rw [hPp] at hP'
      exact .inl ⟨hR, by omega, p, c, y', gt, sz, l, L, v, ga, gb, gy, ⟨hP', n1, n2, h.ck, ⟨by omega, by omega, by omega, by omega, by omega⟩, by have := h.nw; omega, by have := h.ll; omega, n3, h.wt⟩⟩
  · rintro b z k ck al m cl wr ⟨_, p, c, y, gt, sz, l, L, v, ga, gb, gy, r, bu, ha, hbq, hr, hbu, hP, hI, hf8, hfr, hy, hck, hB, hnw, hll, hws, hwt⟩ hk
    have hmn : m = p.newest := by rw [hws.len]; exact hwt.len
    obtain ⟨xs, hown, hxs⟩ := hws.row
    refine ⟨by omega, xs, hown, fun al' cl' w'' hown' hg => ?_⟩
    rw [ha, hbq] at hown'
    obtain ⟨gt', sz', hws', hfr'⟩ := hws.app (fun k hk => hP.olt k hk) hxs hown.1 _ 0 r bu hown' hg
    have hkeep : ∀ k, y.own k → ¬ (k = gt ∧ 0 < m) := fun k hk q => (hws.gF q.2).1 (by rw [← q.1]; exact hk)
    refine ⟨by omega, p.add r bu, c, y, gt', sz', l ++ [(r, bu)], L, v, ga, gb, gy, ⟨hP.kept hfr' hkeep, hfr.trans hfr' fun k hk q => by have := (hws.gF q.2).2; omega, hy, hck, hB, ?_, by omega, hws', hwt.add hI hr hbu⟩⟩
    show 2 * (p.newest + 1) ≤ k + 1 + (p.st.fl ++ [_]).length
    rw [List.length_append, List.length_singleton]; omega
  -- Set
  · rintro b z k ck al m cl wr ⟨_, p, c, y, gt, sz, l, L, v, ga, gb, gy, h⟩ hk h1
    have hPa := h.pa.kept (O := fun _ => False) ((Fr.refl wr _).alloc (op k).obj) (fun _ _ q => q)
    have hb1 := h.bd.nw; have hb2 := h.bd.tk; have hb3 := h.bd.rf; have hb4 := h.bd.sn; have hb5 := h.bd.dr
    refine (pa_set hPa (op k).a (op k).b (op k).c).mono ?_
    rintro e w' ⟨rfl, y', hP', hs⟩
    obtain ⟨n1, n2, n3, n4, n5⟩ := h.next (op k).obj hs
    refine ⟨_, rfl, n4, ?_⟩
    by_cases hR : setR p (op k).a (op k).b (op k).c = 0
    · obtain ⟨⟨a1, a2, a3, a4⟩, x, hx⟩ := setP_ok hR
      obtain ⟨x1, x2, x3, x4⟩ := lookI_some hx h.pa.inv.pi.wf.nums
      have hle := h.pa.inv.le x x1
      have hPp : setP p (op k).a (op k).b (op k).c = p.set (op k).a.toNat (op k).b.toNat (op k).c.toNat := by unfold setP; rw [if_pos hR]
      rw [hPp] at hP'
      have hmn : m = p.newest := by rw [h.ws.len]; exact h.wt.len
      have e1 : (op k).a.toNat = (x.num - 1) + 1 := by omega
      rw [e1] at hP'
      refine .inr ⟨hR, ⟨hk, p, c, y', gt, sz, l, L, v, ga, gb, gy, x.num - 1, (op k).b.toNat, (op k).c.toNat, by omega, by omega, by omega, by omega, by omega, by omega, h.pa.inv, hP', n1, n2, h.ck, ⟨by omega, by omega, by omega, by omega, by omega⟩, h.nw, h.ll, n3, h.wt⟩, ?_⟩
      obtain ⟨e2, _⟩ := h.ws.al1 (by omega)
      have := h.ws.tk.lt (by omega)
      rw [e2]
      intro q
      injection q with q
      have q' : gt = wr.heap.size := q
      omega
    · have hPp : setP p (op k).a (op k).b (op k).c = p := by unfold setP; rw [if_neg hR]
      rw [hPp] at hP'
      exact .inl ⟨hR, by omega, p, c, y', gt, sz, l, L, v, ga, gb, gy, ⟨hP', n1, n2, h.ck, ⟨by omega, by omega, by omega, by omega, by omega⟩, by have := h.nw; omega, by have := h.ll; omega, n3, h.wt⟩⟩
  · rintro b z k ck al m cl wr ⟨_, p, c, y, gt, sz, l, L, v, ga, gb, gy, f, r, bu, ha, hbq, hcq, hr, hbu, hfm, hI, hP, hfr, hy, hck, hB, hnw, hll, hws, hwt⟩ hk
    have h0 : 0 < m := by omega
    obtain ⟨e2, _⟩ := hws.al1 h0
    have hmn : m = p.newest := by rw [hws.len]; exact hwt.len
    have hb1 := hB.nw
    obtain ⟨hws', hfr'⟩ := hws.put hfm r bu
    rw [hbq, hcq]
    refine ⟨gt, f, e2, ha, hfm, by omega, ⟨_, hws.tk.c3 f hfm⟩, ⟨_, hws.tk.c4 f hfm⟩, fun o => hws.tk.fz o h0, by omega, p.set (f + 1) r bu, c, y, gt, sz, l.set f (r, bu), L, v, ga, gb, gy, ⟨hP.kept hfr' (fun k hk q => (hws.gF h0).1 (by rw [← q]; exact hk)), hfr.trans hfr' fun k hk q => by have := (hws.gF h0).2; omega, hy, hck, ⟨hB.nw, hB.tk, hB.rf, hB.sn, hB.dr⟩, by show 2 * p.newest ≤ k + 1 + p.st.fl.length; omega, by omega, hws', ?_⟩⟩
    have := hwt.set hI (f := f + 1) (r := r) (b := bu) (by omega) hr hbu
    rw [Nat.add_sub_cancel] at this
    exact this
  -- Enqueue
  · rintro b z k ck al m cl wr ⟨_, p, c, y, gt, sz, l, L, v, ga, gb, gy, h⟩ hk h1
    have hPa := h.pa.kept (O := fun _ => False) ((Fr.refl wr _).alloc (op k).obj) (fun _ _ q => q)
    have hb1 := h.bd.nw; have hb2 := h.bd.tk; have hb3 := h.bd.rf; have hb4 := h.bd.sn; have hb5 := h.bd.dr
    refine (pa_enq hPa (by omega) (by omega) (op k).a (op k).b (op k).c).mono ?_
    rintro e w' ⟨rfl, y', hP', hs⟩
    obtain ⟨n1, n2, n3, n4, n5⟩ := h.next (op k).obj hs
    have hnw := h.nw; have hll := h.ll
    refine ⟨_, rfl, by omega, _, _, y', gt, sz, l, L, v, ga, gb, gy, ⟨hP', n1, n2, ?_, ?_, ?_, by omega, n3, ?_⟩⟩
    · rw [← h.ck]; unfold enqP; split <;> rfl
    · unfold enqP enqC
      split
      · exact ⟨by show p.newest ≤ k + 1; omega, by show c.taken + 1 ≤ k + 1; omega, by show c.refused ≤ k + 1; omega, by show c.sent ≤ 64 * (k + 1); omega, by show c.dropped ≤ 8 * (k + 1); omega⟩
      · exact ⟨by show p.newest ≤ k + 1; omega, by show c.taken ≤ k + 1; omega, by show c.refused + 1 ≤ k + 1; omega, by show c.sent ≤ 64 * (k + 1); omega, by show c.dropped ≤ 8 * (k + 1); omega⟩
    · unfold enqP
      split
      · show 2 * p.newest ≤ k + 1 + (Pace.upd p.st.fl _ _).length
        rw [show (Pace.upd p.st.fl (op k).a.toNat (Pace.withPk (op k).b (op k).c.toNat)).length = p.st.fl.length by simp [Pace.upd]]
        omega
      · omega
    · unfold enqP
      split
      · exact h.wt.enq _ _ _
      · exact h.wt
  -- Remove
  · rintro b z k ck al m cl wr ⟨_, p, c, y, gt, sz, l, L, v, ga, gb, gy, h⟩ hk h1
    have hPa := h.pa.kept (O := fun _ => False) ((Fr.refl wr _).alloc (op k).obj) (fun _ _ q => q)
    have hb1 := h.bd.nw; have hb2 := h.bd.tk; have hb3 := h.bd.rf; have hb4 := h.bd.sn; have hb5 := h.bd.dr
    have hl8 : (remL p (op k).a).length ≤ 8 := by
      unfold remL
      split
      · exact Nat.zero_le _
      · rename_i x hx
        exact (h.pa.inv.pi.wf.F x (lookI_some hx h.pa.inv.pi.wf.nums).1).few
    refine (pa_remove hPa (by omega) (by omega) (op k).a).mono ?_
    rintro e w' ⟨u, rfl, y', hP', hs, _⟩
    obtain ⟨n1, n2, n3, n4, n5⟩ := h.next (op k).obj hs
    have hnw := h.nw; have hll := h.ll
    refine ⟨_, _, rfl, by omega, _, _, y', gt, sz, l, L, v, ga, gb, gy, ⟨hP', n1, n2, ?_, ?_, ?_, by omega, n3, ?_⟩⟩
    · rw [← h.ck]; unfold remP; split <;> rfl
    · refine ⟨?_, by show c.taken ≤ k + 1; omega, by show c.refused ≤ k + 1; omega, by show c.sent ≤ 64 * (k + 1); omega, by show c.dropped + _ ≤ 8 * (k + 1); omega⟩
      unfold remP
      split
      · omega
      · show p.newest ≤ k + 1; omega
    · unfold remP
      split
      · omega
      · rename_i x hx
        have := gone_length h.pa.inv.pi.wf.nums x.num
        show 2 * p.newest ≤ k + 1 + (Pace.gone p.st.fl x.num).length
        omega
    · unfold remP
      split
      · exact h.wt
      · exact h.wt.remove _
  -- Poll
  · rintro b z k ck al m cl wr ⟨_, p, c, y, gt, sz, l, L, v, ga, gb, gy, h⟩ hk h1
    have hPa := h.pa.kept (O := fun _ => False) ((Fr.refl wr _).alloc (op k).obj) (fun _ _ q => q)
    have hb1 := h.bd.nw; have hb2 := h.bd.tk; have hb3 := h.bd.rf; have hb4 := h.bd.sn; have hb5 := h.bd.dr
    have hsz : (wr.alloc (op k).obj).heap.size = wr.heap.size + 1 := by simp
    by_cases hn : (op k).a ≤ 4000000000000000000
    · refine (pa_poll hPa (hTr (h.fr.alloc _)) (by omega) (by omega) (op k).a (op k).b hn).mono ?_
      rintro e w' ⟨u, rfl, n0, y', hP', hBA, hs, hn0⟩
      obtain ⟨n1, n2, n3, n4, n5⟩ := h.next (op k).obj hs
      obtain ⟨a, cc, rfl⟩ := ba_len hBA
      have ht := poll_len h.pa.inv (now := (op k).a.toNat) (by omega) (op k).b.toNat
      have hfs := h.fr.size
      refine ⟨n4, .inr ⟨a, _, cc, rfl, hk, p, _, y', gt, sz, l, L, v, ga, gb, gy, (op k).a.toNat, (op k).b.toNat, n0, by omega, h.pa.inv, hP', n1, n2, ?_, ⟨Nat.le_trans hb1 (by omega), by show c.taken ≤ k + 1; omega, by show c.refused ≤ k + 1; omega, by show c.sent + _ ≤ 64 * (k + 1); omega, by show c.dropped ≤ 8 * (k + 1); omega⟩, h.nw, h.ll, n3, h.wt, hBA.up.imp fun g _ _ q q2 => q2 q, by omega, fun h0 => by have := h.ws.tk.lt h0; omega, fun k hk => by have := h.ws.s4.olt hk; omega⟩⟩
      have := h.ck
      omega
    · refine (pa_poll_bad hPa (op k).a (op k).b (by omega)).mono ?_
      rintro e w' ⟨rfl, rfl⟩
      obtain ⟨n1, n2, n3, n4, n5⟩ := h.next (op k).obj (Stp.refl _ _)
      have hnw := h.nw; have hll := h.ll
      exact ⟨n4, .inl ⟨none, 0, 1, rfl, by omega, by omega, by omega, p, c, y, gt, sz, l, L, v, ga, gb, gy, ⟨hPa, n1, n2, h.ck, ⟨by omega, by omega, by omega, by omega, by omega⟩, by omega, by omega, n3, h.wt⟩⟩⟩
  -- what it told is written down
  · rintro b z k ck al m cl u wr ⟨_, p, c, y, gt, sz, l, L, v, ga, gb, gy, now, B, n0, hnow, hI, hP, hfr, hy, hck, hB, hnw, hll, hws, hwt, hBA, hn0, hgn, hsn⟩ hk
    have hmn : m = p.newest := by rw [hws.len]; exact hwt.len
    obtain ⟨a, cc, pp, xc, gl, rfl, hBS, hgl, hpp⟩ := bs_of hBA
    have hb1 := hB.nw
    have hb1' : p.newest ≤ k + 1 := hb1
    have hpi := (hI.pi.tick hnow).admit
    have heach := rel_each hpi B
    have hlen := poll_len hI hnow B
    have hmem : ∀ i, i < ((p.poll now B).1.map up).length → ∃ q0, q0 ∈ (p.poll now B).1 ∧ ((p.poll now B).1.map up).getD i btD = up q0 := fun i hi => by
      rw [List.length_map] at hi
      refine ⟨(p.poll now B).1[i], List.getElem_mem hi, ?_⟩
      rw [List.getD, List.getElem?_map, List.getElem?_eq_getElem hi]; rfl
    have hal : 0 < m → al = some ⟨gt, 0, none⟩ := fun h0 => (hws.al1 h0).1
    refine (polled_walk z gt m sz cl L.length al (bvOf ((p.poll now B).1.map up)) a cc pp xc (ck : Int) (nrOf l) (nbOf l) v (xOf L ga gb gy) wr (by omega) (by omega) hal ?_ ?_ ?_ ?_ hBS hws.tk hws.s4 (fun h0 q => (hws.sF gt q).2.2 h0 rfl) ?_ ?_).mono ?_
    · show ((p.poll now B).1.map up).length ≤ 64
      rw [List.length_map]; exact hlen.1
    · intro i hi
      obtain ⟨q0, hq0, e⟩ := hmem i hi
      obtain ⟨_, h1, h2, _⟩ := heach q0 hq0
      show 0 < (((p.poll now B).1.map up).getD i btD).2.2.length ∧ (((p.poll now B).1.map up).getD i btD).2.2.length ≤ 8
      rw [e]; exact ⟨h1, h2⟩
    · intro i j hi hj
      obtain ⟨q0, hq0, e⟩ := hmem i hi
      obtain ⟨_, h1, h2, h3⟩ := heach q0 hq0
      have hj' : j < q0.2.2.length := by
        have : j < (((p.poll now B).1.map up).getD i btD).2.2.length := hj
        rw [e] at this; exact this
      show 0 ≤ (((((p.poll now B).1.map up).getD i btD).2.2.getD j (0, 0)).2 : Int) ∧ (((((p.poll now B).1.map up).getD i btD).2.2.getD j (0, 0)).2 : Int) ≤ 1500
      rw [e]
      have hm : (up q0).2.2.getD j (0, 0) ∈ q0.2.2 := by
        show q0.2.2.getD j (0, 0) ∈ q0.2.2
        rw [List.getD, List.getElem?_eq_getElem hj']
        exact List.getElem_mem hj'
      have := h3 _ hm
      omega
    · intro i hi
      obtain ⟨q0, hq0, e⟩ := hmem i hi
      obtain ⟨⟨x, hx, hxn⟩, _⟩ := heach q0 hq0
      have hxm : x.num ∈ (Pace.admit (Pace.tick p.st now) p.asks).fl.map (·.num) := List.mem_map.2 ⟨x, hx, rfl⟩
      rw [Pace.admit_nums, Pace.tick_nums] at hxm
      obtain ⟨x', hx', e'⟩ := List.mem_map.1 hxm
      have hle := hI.le x' hx'
      have e'' : x'.num = x.num := e'
      refine ⟨q0.1 - 1, by omega, ?_⟩
      show ((((p.poll now B).1.map up).getD i btD).1 : Int) = _
      rw [e]
      show (q0.1 : Int) = _
      omega
    · intro g o e h0
      obtain ⟨h1, h2, h3, h4, h5⟩ := hgl h0
      rw [h1] at e
      injection e with e
      injection e with e1 e2
      subst e1
      obtain ⟨q0, hq0, e⟩ := hmem 0 h0
      obtain ⟨⟨x, hx, hxn⟩, _⟩ := heach q0 hq0
      have hxm : x.num ∈ (Pace.admit (Pace.tick p.st now) p.asks).fl.map (·.num) := List.mem_map.2 ⟨x, hx, rfl⟩
      rw [Pace.admit_nums, Pace.tick_nums] at hxm
      obtain ⟨x', hx', e'⟩ := List.mem_map.1 hxm
      have hle := hI.le x' hx'
      have := hgn (by omega)
      exact ⟨by omega, h3⟩
    · intro i hi g o e
      obtain ⟨g', o', h1, h2, h3, h4, h5, h6, h7⟩ := hpp i hi
      rw [h1] at e
      injection e with e
      injection e with e1 e2
      subst e1
      obtain ⟨q0, hq0, e⟩ := hmem i hi
      obtain ⟨⟨x, hx, hxn⟩, _⟩ := heach q0 hq0
      have hxm : x.num ∈ (Pace.admit (Pace.tick p.st now) p.asks).fl.map (·.num) := List.mem_map.2 ⟨x, hx, rfl⟩
      rw [Pace.admit_nums, Pace.tick_nums] at hxm
      obtain ⟨x', hx', e'⟩ := List.mem_map.1 hxm
      have hle := hI.le x' hx'
      have := hgn (by omega)
      exact ⟨by omega, h3⟩
    · rintro e w' ⟨rfl, v', gR, gB, gY, hS4, hR, hBr, hY, hTK, hF, hown, k1, k2, k3⟩
      have hfO : ∀ k, (S4.own z v k ∨ (k = gt ∧ 0 < m)) → ¬ y.own k ∧ w.heap.size < k := fun k q => by
        rcases q with q | ⟨rfl, h0⟩
        · exact ⟨(hws.sF k q).1, (hws.sF k q).2.1⟩
        · exact hws.gF h0
      have hwsz : w.heap.size < wr.heap.size := (Array.getElem?_eq_some_iff.1 hws.z4).1
      have hPk := hP.kept hF fun k hk q => (hfO k q).1 hk
      have hylt := hP.olt
      have e0 : ck = (Pace.enOf (max p.st.clock now) l (p.poll now B).1).ck := hck.symm
      have hm2 : m = (Pace.enOf (max p.st.clock now) l (p.poll now B).1).n := hws.len
      have hlen2 : (L ++ [Pace.enOf (max p.st.clock now) l (p.poll now B).1]).length = L.length + 1 := by simp
      have hflen : (p.poll now B).2.st.fl.length = p.st.fl.length := by
        have := congrArg List.length (Pace.PS.poll_nums p now B)
        simpa using this
      have hold : ∀ i, i < L.length → ∀ g, (g = ga i ∨ g = gb i ∨ g = gy i) → g < wr.heap.size ∧ w'.heap[g]? = wr.heap[g]? := fun i hi g hg => by
        obtain ⟨r1, r2, r3⟩ := hws.rows i hi
        obtain ⟨q1, q2, q3, q4⟩ := hws.rF i hi g hg
        have hlt : g < wr.heap.size := by
          rcases hg with rfl | rfl | rfl
          · exact r1.lt
          · exact r2.lt
          · exact r3.lt
        exact ⟨hlt, hF.blk g hlt fun q => by
          rcases q with q | ⟨q, h0⟩
          · exact q4 q
          · exact q3 h0 q⟩
      refine ⟨rfl, by omega, (p.poll now B).2, c, y, gt, sz, l, L ++ [Pace.enOf (max p.st.clock now) l (p.poll now B).1], v', upd ga L.length gR, upd gb L.length gB, upd gy L.length gY, ⟨hPk, hfr.trans hF fun k hk q => by have := (hfO k q).2; omega, hy, by rw [poll_clock]; exact hck, hB, ?_, by rw [hlen2]; omega, ?_, hwt.poll hI hnow B⟩⟩
      · rw [hflen]
        show 2 * p.newest ≤ _
        omega
      · refine ⟨?_, hws.zF, hws.len, hws.al0, hws.al1, hTK, hws.gF, ?_, fun k hk => ?_, fun i hi => ?_, fun i hi g hg => ?_⟩
        · rw [hF.blk _ hwsz fun q => by have := (hfO _ q).2; omega]
          exact hws.z4
        · refine hS4.congr (fun _ _ => rfl) (fun i hi => ?_) (fun i hi => hlen2.symm)
          rw [xOf_snoc, ← hm2, ← e0]
        · rcases hown k hk with q | ⟨q, _⟩
          · exact hws.sF k q
          · exact ⟨fun q2 => by have := hylt k q2; omega, by omega, fun h0 e => by have := hws.tk.lt h0; omega⟩
        · rw [hlen2] at hi
          by_cases e : i = L.length
          · subst e
            rw [Pace.at_new, upd_same, upd_same, upd_same, ← hm2]
            refine ⟨hR, hBr, hY.congr fun f _ => ?_⟩
            show sumB _ f ((p.poll now B).1.map up).length = _
            rw [List.length_map, sumB_bytes _ _ _ (Nat.le_refl _), List.take_length]
            rfl
          · obtain ⟨r1, r2, r3⟩ := hws.rows i (by omega)
            rw [Pace.at_old (by omega)]
            simp only [upd, if_neg e]
            exact ⟨r1.kept (hold i (by omega) _ (.inl rfl)).2, r2.kept (hold i (by omega) _ (.inr (.inl rfl))).2, r3.kept (hold i (by omega) _ (.inr (.inr rfl))).2⟩
        · rw [hlen2] at hi
          by_cases e : i = L.length
          · subst e
            rw [upd_same, upd_same, upd_same] at hg
            have hgn2 : wr.heap.size ≤ g := by rcases hg with rfl | rfl | rfl <;> assumption
            refine ⟨fun q => by have := hylt g q; omega, by omega, fun h0 e => by have := hws.tk.lt h0; omega, fun q => ?_⟩
            rcases hown g q with q2 | ⟨_, q3, q4, q5⟩
            · have := hws.s4.olt q2; omega
            · rcases hg with rfl | rfl | rfl
              · exact q3 rfl
              · exact q4 rfl
              · exact q5 rfl
          · simp only [upd, if_neg e] at hg
            obtain ⟨q1, q2, q3, q4⟩ := hws.rF i (by omega) g hg
            have hlt := (hold i (by omega) g hg).1
            refine ⟨q1, q2, q3, fun q => ?_⟩
            rcases hown g q with q5 | ⟨q5, _⟩
            · exact q4 q5
            · omega
  -- another command
  · rintro b z k ck al m cl wr ⟨_, p, c, y, gt, sz, l, L, v, ga, gb, gy, h⟩ hk
    obtain ⟨n1, n2, n3, n4, n5⟩ := h.next (op k).obj (Stp.refl _ _)
    have hPa := h.pa.kept (O := fun _ => False) ((Fr.refl wr _).alloc (op k).obj) (fun _ _ q => q)
    have hb1 := h.bd.nw; have hb2 := h.bd.tk; have hb3 := h.bd.rf; have hb4 := h.bd.sn; have hb5 := h.bd.dr
    have hnw := h.nw; have hll := h.ll
    exact ⟨by omega, p, c, y, gt, sz, l, L, v, ga, gb, gy, ⟨hPa, n1, n2, h.ck, ⟨by omega, by omega, by omega, by omega, by omega⟩, by omega, by omega, n3, h.wt⟩⟩
  -- the end
  · rintro b z ck al m cl wr ⟨_, p, c, y, gt, sz, l, L, v, ga, gb, gy, h⟩
    have hws := h.ws
    have hzz := (hws.sF z (.inl rfl)).2.1
    have hwsz : w.heap.size < wr.heap.size := (Array.getElem?_eq_some_iff.1 hws.z4).1
    have hv : ∀ i, i < 4 → v i = .slice (sA (v i)) L.length (sC (v i)) := fun i hi => row_is (hws.s4.r i hi)
    have hc : ∀ i, i < 4 → wr.cell? ⟨z, i, none⟩ = some (.slice (sA (v i)) L.length (sC (v i))) := fun i hi => by rw [← hv i hi]; exact hws.s4.c i hi
    refine ⟨by omega, _, _, _, _, _, _, _, _, _, _, _, _, hc 0 (by omega), hc 1 (by omega), hc 2 (by omega), hc 3 (by omega), fun w'' hch => ?_⟩
    have hkeep : ∀ k, k ≠ w.heap.size → w''.heap[k]? = wr.heap[k]? := fun k hk => hch.blk k fun o q => hk q
    have hcell : ∀ g o, g ≠ w.heap.size → w''.cell? ⟨g, o, none⟩ = wr.cell? ⟨g, o, none⟩ := fun g o hg => World.cell?_of_block (w := wr) (a := ⟨g, o, none⟩) (hkeep g hg)
    have hrow : ∀ i, i < 4 → ∀ j, j < L.length → ∃ g, sA (v i) = some ⟨g, 0, none⟩ ∧ w''.cell? ⟨g, 0 + j, none⟩ = (xOf L ga gb gy i)[j]? := fun i hi j hj => by
      obtain ⟨g, cap, e, _, _, hog, _⟩ := row_shape (hws.s4.r i hi) (by omega)
      refine ⟨g, by rw [e]; rfl, ?_⟩
      have hgne : g ≠ w.heap.size := fun q => by have := (hws.sF g (.inr ⟨i, hi, hog⟩)).2.1; omega
      rw [hcell _ _ hgne, Nat.zero_add]
      obtain ⟨u, hu⟩ : ∃ u, (xOf L ga gb gy i)[j]? = some u := ⟨_, xOf_get hj⟩
      rw [hu]
      exact row_get0 (hws.s4.r i hi) hog hu
    have hwt := h.wt
    have hrowne : ∀ i, i < L.length → ga i ≠ w.heap.size ∧ gb i ≠ w.heap.size ∧ gy i ≠ w.heap.size := fun i hi => ⟨fun q => by have := (hws.rF i hi _ (.inl rfl)).2.1; omega, fun q => by have := (hws.rF i hi _ (.inr (.inl rfl))).2.1; omega, fun q => by have := (hws.rF i hi _ (.inr (.inr rfl))).2.1; omega⟩
    have hb1 := h.bd.nw
    have hll := h.ll
    refine ⟨L.length, _, _, _, _, _, _, _, _, fun i => some ⟨ga i, 0, none⟩, fun i => some ⟨gb i, 0, none⟩, fun i => some ⟨gy i, 0, none⟩, fun i => (Pace.at' L i).n, fun i => (Pace.at' L i).n, fun i => (Pace.at' L i).n, fun i => Pace.at' L i, L, rfl, by omega, ⟨fun i hi => ?_, fun i hi => ?_, fun i hi => ?_, fun i hi => ?_, fun i f hi hf => ?_, fun i f hi hf => ?_, fun i f hi hf => ?_⟩, ⟨rfl, fun _ _ => rfl, fun i j hij hj => hwt.mono i j hij hj, fun i hi => hwt.cks i hi, fun i d f hd hf => hwt.all i d f hd hf, fun i hi f hf => hwt.lim i hi f hf, fun i hi => hwt.ckm i hi⟩, fun i hi => (by have := hwt.cnt i hi; show (Pace.at' L i).n < _; omega), fun w3 hB => ?_⟩
    · obtain ⟨g, e, hg⟩ := hrow 0 (by omega) i hi
      exact ⟨g, 0, e, by rw [hg, xOf_get hi]; rfl⟩
    · obtain ⟨g, e, hg⟩ := hrow 1 (by omega) i hi
      exact ⟨g, 0, e, by rw [hg, xOf_get hi]; rfl⟩
    · obtain ⟨g, e, hg⟩ := hrow 2 (by omega) i hi
      exact ⟨g, 0, e, by rw [hg, xOf_get hi]; rfl⟩
    · obtain ⟨g, e, hg⟩ := hrow 3 (by omega) i hi
      exact ⟨g, 0, e, by rw [hg, xOf_get hi]; rfl⟩
    · exact ⟨ga i, 0, rfl, by rw [hcell _ _ (hrowne i hi).1, Nat.zero_add]; exact (hws.rows i hi).1.cell f hf⟩
    · exact ⟨gb i, 0, rfl, by rw [hcell _ _ (hrowne i hi).2.1, Nat.zero_add]; exact (hws.rows i hi).2.1.cell f hf⟩
    · exact ⟨gy i, 0, rfl, by rw [hcell _ _ (hrowne i hi).2.2, Nat.zero_add]; exact (hws.rows i hi).2.2.cell f hf⟩
    · have h2 : Fr w w'' (fun _ => False) := h.fr.trans (hch.fr2 (O := fun a => a = w.heap.size) fun a o q => q) fun k hk q => by omega
      exact ⟨hB.os.trans h2.os, hB.tape.trans h2.tape, hB.output.trans h2.output, Nat.le_trans h2.size hB.size, fun k hk _ => (hB.block k (Nat.lt_of_lt_of_le hk h2.size)).trans (h2.blk k hk fun q => q)⟩
  · rintro e w' ⟨u, rfl, T, a0, c0, a1, c1, a2, c2, a3, c3, ra, rb, ry, rc, bc, yc, E, L, rfl, h⟩
    exact ⟨T, a0, c0, a1, c1, a2, c2, a3, c3, ra, rb, ry, rc, bc, yc, E, L, rfl, h⟩
/-- Bound, all but the row. -/
theorem bound_any (q : Int) (sa : Option Addr) (n cp : Nat) (w : World) (hz : 0 < w.heap.size) (hT : TabW w) (hb : n < 8796093022208) (hsa : 0 < n → ∃ g o, sa = some ⟨g, o, none⟩) (op : Nat → OpV)
    (hC : ∀ k, k < n → ∀ g o, sa = some ⟨g, o, none⟩ → w.cell? ⟨g, o + k * 6, none⟩ = some (.int .i64 (op k).k) ∧ w.cell? ⟨g, o + k * 6 + 1, none⟩ = some (.int .i64 (op k).a) ∧ w.cell? ⟨g, o + k * 6 + 2, none⟩ = some (.int .i64 (op k).b) ∧ w.cell? ⟨g, o + k * 6 + 3, none⟩ = some (.int .i64 (op k).c) ∧ w.cell? ⟨g, o + k * 6 + 4, none⟩ = some (.int .i64 (op k).w) ∧ w.cell? ⟨g, o + k * 6 + 5, none⟩ = some (.slice (op k).sa (op k).sn (op k).sc)) :
    Calls Tryd.prog 5 #[.int .i64 q, .slice sa n cp] w fun e w' => e = .returned (.bool true) ∧ Fr w w' (fun _ => False) := by
  refine bound_walk q sa n cp w (fun w1 => Fr w w1 (fun _ => False)) (fun w' => Fr w w' (fun _ => False)) (alive_any w hz hT) fun w1 hf => ?_
  have hz1 : 0 < w1.heap.size := Nat.lt_of_lt_of_le hz hf.size
  refine (watch_any q sa n cp w1 hz1 (hT.fr hf (fun q => q) hz) hb hsa op (fun k hk g o e => ?_)).mono ?_
  · have hcell := hC k hk g o e
    have hg : g < w.heap.size := World.block_lt_of_cell? _ _ hcell.1
    have hs : ∀ j, w1.cell? ⟨g, j, none⟩ = w.cell? ⟨g, j, none⟩ := fun j => World.cell?_of_block (w := w) (a := ⟨g, j, none⟩) (hf.blk g hg fun q => q)
    rw [hs, hs, hs, hs, hs, hs]
    exact hcell
  · rintro e w' ⟨T, a0, c0, a1, c1, a2, c2, a3, c3, ra, rb, ry, rc, bc, yc, E, L, rfl, hT', hSV, hER, hn, hB⟩
    exact ⟨T, a0, c0, a1, c1, a2, c2, a3, c3, ra, rb, ry, rc, bc, yc, E, L, rfl, hT', hSV, hER, hn, fun w'' h => hf.trans (hB w'' h) fun _ _ q => q⟩
end Go.Proofs.YtogdekjklbbbiaaDoor
