import Derived.Test.YtogdekjklbbbiaaDoorOnd
import Derived.Test.YtogdekjklbbbiaaDoorOny
set_option maxRecDepth 100000
namespace Go.Proofs.YtogdekjklbbbiaaDoor
open Go.ChangeShapes Go.WideShapes Go.ChangeAt Go.RowKit
set_option linter.unusedSimpArgs false
set_option linter.unusedVariables false

set_option maxHeartbeats 2000000 in
/-- Once, all but the row. -/
theorem once_any (q : Int) (sa : Option Addr) (n cp : Nat) (w : World) (hz : 0 < w.heap.size) (hT : TabW w) (hb : n < 8796093022208) (hsa : 0 < n → ∃ g o, sa = some ⟨g, o, none⟩) (op : Nat → OpV)
    (hC : ∀ k, k < n → ∀ g o, sa = some ⟨g, o, none⟩ → w.cell? ⟨g, o + k * 6, none⟩ = some (.int .i64 (op k).k) ∧ w.cell? ⟨g, o + k * 6 + 1, none⟩ = some (.int .i64 (op k).a) ∧ w.cell? ⟨g, o + k * 6 + 2, none⟩ = some (.int .i64 (op k).b) ∧ w.cell? ⟨g, o + k * 6 + 3, none⟩ = some (.int .i64 (op k).c) ∧ w.cell? ⟨g, o + k * 6 + 4, none⟩ = some (.int .i64 (op k).w) ∧ w.cell? ⟨g, o + k * 6 + 5, none⟩ = some (.slice (op k).sa (op k).sn (op k).sc)) :
    Calls Tryd.prog 7 #[.int .i64 q, .slice sa n cp] w fun e w' => e = .returned (.bool true) ∧ Fr w w' (fun _ => False) := by
  have hTr : ∀ {wr : World}, Fr w wr (fun _ => False) → TabW wr := fun hf => hT.fr hf (fun q => q) hz
  have hal : ∀ {wr : World} {b : Nat} {y : Lay} {p : Pace.PS} {c : Cn} (ob : Obj), PA wr b y p c → PA (wr.alloc ob) b y p c := fun {wr b y p c} ob h => h.kept (O := fun _ => False) ((Fr.refl wr _).alloc ob) (fun _ _ q => q)
  refine once_walk q sa n cp w hb hsa op
    (fun b k ck tk rf al m cl wr => k ≤ n ∧ ∃ p c y gt sz l V, PA wr b y p c ∧ OC w wr al m cl y gt sz l V ∧ OP p c k ck tk rf l)
    (fun b k ck tk rf al m cl wr => k < n ∧ ∃ (p : Pace.PS) (c : Cn) (y : Lay) (gt sz : Nat) (l : List Pace.Ln) (V : Nat → Value) (r bu : Nat), PA wr b y (p.add r bu) c ∧ p.Inv ∧ OC w wr al m cl y gt sz l V ∧ OP p c k ck tk rf l)
    (fun b k ck tk rf al m cl zo wr => k < n ∧ ∃ (p : Pace.PS) (c : Cn) (y : Lay) (gt sz : Nat) (l : List Pace.Ln) (V : Nat → Value) (ln : Nat) (x : Pace.Fl), x ∈ p.st.fl ∧ (op k).a = (x.num : Int) ∧ PA wr b y (p.enq x.num (k : Int) ln) { c with taken := c.taken + 1 } ∧ p.Inv ∧ OC w wr al m cl y gt sz l V ∧ OP p c k ck tk rf l ∧ (∀ i, i < m → (V i).ownBlock ≠ some zo) ∧ zo < wr.heap.size)
    (fun b k ck tk rf al m cl a v wr => k < n ∧ ∃ (p : Pace.PS) (c : Cn) (y : Lay) (gt sz : Nat) (l : List Pace.Ln) (V : Nat → Value) (n0 : Nat) (N : Nat → Prop) (x : Pace.Fl), x ∈ p.st.fl ∧ x.num = a + 1 ∧ (op k).a = (x.num : Int) ∧ PA wr b y (p.remove x.num) { c with dropped := c.dropped + x.pk.length } ∧ p.Inv ∧ OC w wr al m cl y gt sz l V ∧ OP p c k ck tk rf l ∧ PL wr n0 N x.pk v ∧ gt < n0)
    (fun b k ck tk rf al m cl v wr => k < n ∧ ∃ (p : Pace.PS) (c : Cn) (y : Lay) (gt sz : Nat) (l l' : List Pace.Ln) (V : Nat → Value) (bs : List Bt) (n0 : Nat) (N : Nat → Prop), PA wr b y p c ∧ OC w wr al m cl y gt sz l V ∧ OP p c (k + 1) ck tk rf l' ∧ Pace.Sents ck l bs l' ∧ BAi wr n0 N (bs.map up) v ∧ gt < n0 ∧ bs.length ≤ 64 ∧ (∀ q ∈ bs, q.2.2.length ≤ 8) ∧ (∀ z ∈ l, z.tags.length ≤ k))
    (fun w' => Fr w w' (fun _ => False)) ?_ ?_ ?_ ?_ ?_ ?_ ?_ ?_ ?_ ?_ ?_ ?_ ?_
  -- New
  · by_cases hq : q < 1500 ∨ 1000000 < q
    · refine (new_bad q w hq).mono ?_
      rintro e w' ⟨rfl, rfl⟩
      exact .inl ⟨rfl, hq, Fr.refl _ _⟩
    · refine (pa_new w hz q (by omega) (by omega)).mono ?_
      rintro e w' ⟨b, y, rfl, hP, hfr, hy⟩
      refine .inr ⟨b, rfl, Nat.zero_le _, _, _, y, 0, 0, [], fun _ => .slice none 0 0, hP, ⟨hfr, hy, ⟨rfl, fun _ => ⟨rfl, rfl⟩, fun h0 => by omega, fun h0 => by omega, fun i z hz' => by simp at hz', fun h0 => by omega, fun i hi => by omega, fun i j hi => by omega⟩, by have := hfr.size; omega⟩, ⟨rfl, ⟨Nat.le_refl _, Nat.le_refl _, Nat.le_refl _, Nat.le_refl _, Nat.le_refl _⟩, Nat.zero_le _, Pace.OI.new _, rfl, rfl, rfl, rfl, rfl, rfl, fun z hz' => by cases hz'⟩⟩
  -- the script's cells
  · rintro b k ck tk rf al m cl wr ⟨_, p, c, y, gt, sz, l, V, hP, hO, hQ⟩ hk
    refine ⟨by have := hP.inv.pi.wf.clock; have := hQ.cl; omega, by have := hQ.ta; have := hQ.bd.tk; omega, by have := hQ.re; have := hQ.bd.rf; omega, fun g o e => ?_⟩
    have hcell := hC k hk g o e
    have hg : g < w.heap.size := World.block_lt_of_cell? _ _ hcell.1
    have hs : ∀ j, wr.cell? ⟨g, j, none⟩ = w.cell? ⟨g, j, none⟩ := fun j => World.cell?_of_block (w := w) (a := ⟨g, j, none⟩) (hO.fr.blk g hg fun q => q)
    rw [hs, hs, hs, hs, hs, hs]
    exact hcell
  -- Add
  · rintro b k ck tk rf al m cl wr ⟨_, p, c, y, gt, sz, l, V, hP, hO, hQ⟩ hk h1
    have hb1 := hQ.bd.nw; have hb2 := hQ.bd.tk; have hb3 := hQ.bd.rf; have hb4 := hQ.bd.sn; have hb5 := hQ.bd.dr
    refine (pa_addR (hal (op k).obj hP) (by omega) (op k).a (op k).b).mono ?_
    rintro e w' ⟨rfl, y', hP', hs⟩
    obtain ⟨hO', n4, n5⟩ := hO.next hP.olt (op k).obj hs
    refine ⟨_, _, rfl, ?_⟩
    by_cases hR : addR p (op k).a (op k).b = 0
    · have hN : addN p (op k).a (op k).b = (p.newest : Int) + 1 := by unfold addN; rw [if_pos hR]
      have hPp : addP p (op k).a (op k).b = p.add (op k).a.toNat (op k).b.toNat := by unfold addP; rw [if_pos hR]
      rw [hPp] at hP'
      have hmn : m = p.newest := by rw [hO.ls.len]; exact hQ.len
      exact .inr ⟨hR, by rw [hN, hmn], hk, p, c, y', gt, sz, l, V, _, _, hP', hP.inv, hO', hQ⟩
    · have hPp : addP p (op k).a (op k).b = p := by unfold addP; rw [if_neg hR]
      rw [hPp] at hP'
      have := hQ.nw
      exact .inl ⟨hR, by omega, p, c, y', gt, sz, l, V, hP', hO', ⟨hQ.cl, ⟨by omega, by omega, by omega, by omega, by omega⟩, by omega, hQ.oi, hQ.len, hQ.ta, hQ.re, hQ.rd, hQ.b0, hQ.sm, fun z hz' => by have := hQ.tg z hz'; omega⟩⟩
  · rintro b k ck tk rf al m cl wr ⟨_, p, c, y, gt, sz, l, V, r, bu, hP, hI, hO, hQ⟩ hk
    have hmn : m = p.newest := by rw [hO.ls.len]; exact hQ.len
    have hb1 := hQ.bd.nw; have hb2 := hQ.bd.tk; have hb3 := hQ.bd.rf; have hb4 := hQ.bd.sn; have hb5 := hQ.bd.dr
    have hnw := hQ.nw
    have h8 := hI.few
    obtain ⟨xs, hown, hxs⟩ := hO.ls.row
    refine ⟨by omega, xs, hown, fun al' cl' w'' hown' hg => ?_⟩
    obtain ⟨gt', sz', V', hls, hfr⟩ := hO.ls.app (fun k hk => hP.olt k hk) hO.fr.size hxs hown.1 _ hown' hg
    refine ⟨by omega, p.add r bu, c, y, gt', sz', l ++ [Pace.lnD], V', hP.kept hfr (fun x hx q => (hO.ls.gF q.2).1 (by rw [← q.1]; exact hx)), hO.lanes hfr (fun x q => by have := (hO.ls.gF q.2).2; omega) hls (hls.lt (by omega)), ⟨hQ.cl, ⟨by show p.newest + 1 ≤ k + 1; omega, by omega, by omega, by omega, by omega⟩, ?_, hQ.oi.add hI hQ.len r bu, ?_, hQ.ta, hQ.re, hQ.rd, hQ.b0, ?_, fun z hz' => ?_⟩⟩
    · show 2 * (p.newest + 1) ≤ k + 1 + (p.st.fl ++ [_]).length
      rw [List.length_append, List.length_singleton]; omega
    · rw [List.length_append, List.length_singleton, hQ.len]; rfl
    · show c.sent + c.dropped + Pace.waits (p.st.fl ++ [⟨p.newest + 1, 0, 0, 0, [], 0⟩]) = tk
      have : Pace.waits (p.st.fl ++ [⟨p.newest + 1, 0, 0, 0, [], 0⟩]) = Pace.waits p.st.fl := by simp [Pace.waits]
      rw [this]; exact hQ.sm
    · rcases List.mem_append.1 hz' with q2 | q2
      · have := hQ.tg z q2; omega
      · simp at q2; subst q2; exact Nat.zero_le _
  -- Set
  · rintro b k ck tk rf al m cl wr ⟨_, p, c, y, gt, sz, l, V, hP, hO, hQ⟩ hk h1
    have hb1 := hQ.bd.nw; have hb2 := hQ.bd.tk; have hb3 := hQ.bd.rf; have hb4 := hQ.bd.sn; have hb5 := hQ.bd.dr
    have hnw := hQ.nw
    refine (pa_set (hal (op k).obj hP) (op k).a (op k).b (op k).c).mono ?_
    rintro e w' ⟨rfl, y', hP', hs⟩
    obtain ⟨hO', n4, n5⟩ := hO.next hP.olt (op k).obj hs
    have e1 : (setP p (op k).a (op k).b (op k).c).st = p.st := by unfold setP; split <;> rfl
    have e2 : (setP p (op k).a (op k).b (op k).c).newest = p.newest := by unfold setP; split <;> rfl
    exact ⟨_, rfl, by omega, _, c, y', gt, sz, l, V, hP', hO', ⟨by rw [e1]; exact hQ.cl, ⟨by omega, by omega, by omega, by omega, by omega⟩, by rw [e1, e2]; omega, by rw [e1]; exact hQ.oi, by rw [e2]; exact hQ.len, hQ.ta, hQ.re, hQ.rd, hQ.b0, by rw [e1]; exact hQ.sm, fun z hz' => by have := hQ.tg z hz'; omega⟩⟩
  -- Enqueue
  · rintro b k ck tk rf al m cl wr ⟨_, p, c, y, gt, sz, l, V, hP, hO, hQ⟩ hk h1
    have hb1 := hQ.bd.nw; have hb2 := hQ.bd.tk; have hb3 := hQ.bd.rf; have hb4 := hQ.bd.sn; have hb5 := hQ.bd.dr
    have hnw := hQ.nw
    refine (pa_enq (hal (op k).obj hP) (by omega) (by omega) (op k).a (k : Int) (op k).c).mono ?_
    rintro e w' ⟨rfl, y', hP', hs⟩
    obtain ⟨hO', n4, n5⟩ := hO.next hP.olt (op k).obj hs
    refine ⟨_, rfl, n4, ?_⟩
    by_cases hR : enqR p (op k).a (op k).c = 0
    · obtain ⟨x, hx⟩ := enqR_ok hR
      obtain ⟨x1, x2, x3, x4⟩ := lookI_some hx hP.inv.pi.wf.nums
      have hPp : enqP p (op k).a (k : Int) (op k).c = p.enq (op k).a.toNat (k : Int) (op k).c.toNat := by unfold enqP; rw [if_pos hR]
      have hCp : enqC p (op k).a (op k).c c = { c with taken := c.taken + 1 } := by unfold enqC; rw [if_pos hR]
      rw [hPp, hCp, x4] at hP'
      have hle := hP.inv.le x x1
      have hmn : m = p.newest := by rw [hO.ls.len]; exact hQ.len
      refine .inr ⟨hR, ⟨hk, p, c, y', gt, sz, l, V, _, x, x1, x2.symm, hP', hP.inv, hO', hQ, fun i hi q2 => by have := hO.ls.vlt hi q2; omega, n5⟩, ?_⟩
      obtain ⟨e2, _⟩ := hO.ls.al1 (by omega)
      have := hO.ls.lt (by omega)
      rw [e2]
      intro q2
      injection q2 with q2
      have q3 : gt = wr.heap.size := q2
      omega
    · have hPp : enqP p (op k).a (k : Int) (op k).c = p := by unfold enqP; rw [if_neg hR]
      have hCp : enqC p (op k).a (op k).c c = { c with refused := c.refused + 1 } := by unfold enqC; rw [if_neg hR]
      rw [hPp, hCp] at hP'
      exact .inl ⟨hR, by omega, p, _, y', gt, sz, l, V, hP', hO', ⟨hQ.cl, ⟨by omega, by show c.taken ≤ k + 1; omega, by show c.refused + 1 ≤ k + 1; omega, by show c.sent ≤ 64 * (k + 1); omega, by show c.dropped ≤ 8 * (k + 1); omega⟩, by omega, hQ.oi, hQ.len, hQ.ta, by show c.refused + 1 = rf + 1; rw [hQ.re], hQ.rd, hQ.b0, hQ.sm, fun z hz' => by have := hQ.tg z hz'; omega⟩⟩
  · rintro b k ck tk rf al m cl zo wr ⟨_, p, c, y, gt, sz, l, V, ln, x, hx, hxa, hP, hI, hO, hQ, hzo, hzl⟩ hk
    have hb1 := hQ.bd.nw; have hb2 := hQ.bd.tk; have hb3 := hQ.bd.rf; have hb4 := hQ.bd.sn; have hb5 := hQ.bd.dr
    have hnw := hQ.nw
    have hmn : m = p.newest := by rw [hO.ls.len]; exact hQ.len
    have hle := hI.le x hx
    obtain ⟨z, z1, z2, z3⟩ := hQ.oi.enq hI hx rfl (k : Int) ln
    have htg := hQ.tg z (List.mem_of_getElem? z1)
    obtain ⟨e2, _⟩ := hO.ls.al1 (by omega)
    obtain ⟨c0, c1, c2, c3, c4⟩ := hO.ls.c _ z z1
    obtain ⟨ta, tc, hv⟩ := row_len c4
    have ha : x.num - 1 < m := by omega
    refine ⟨by omega, gt, x.num - 1, z.tags.length, tc, ta, tagV z.tags, e2, by omega, ha, by omega, by rw [← z2]; exact c3, by rw [c0, hv], by rw [← hv]; exact c4, fun g cc w6 hown hg => ?_⟩
    rw [← hv] at hg
    obtain ⟨t1, t2, t3, t4⟩ := hO.ls.tag (fun k hk => hP.olt k hk) hO.fr.size z1 (k : Int) _ hown hg
    have hO2 : ∀ x', (x' = gt ∨ (V (x.num - 1)).ownBlock = some x') → ¬ y.own x' ∧ w.heap.size ≤ x' := fun x' q2 => by
      rcases q2 with rfl | q2
      · exact hO.ls.gF (by omega)
      · exact ⟨(hO.ls.vF _ ha x' q2).1, (hO.ls.vF _ ha x' q2).2.1⟩
    refine ⟨?_, by rw [t1, hv], t2, by omega, p.enq x.num (k : Int) ln, _, y, gt, sz, _, _, hP.kept t4 (fun x' hx' q2 => (hO2 x' q2).1 hx'), hO.lanes t4 (fun x' q2 => (hO2 x' q2).2) t3 (t3.lt (by omega)), ⟨hQ.cl, ⟨by show p.newest ≤ k + 1; omega, by show c.taken + 1 ≤ k + 1; omega, by show c.refused ≤ k + 1; omega, by show c.sent ≤ 64 * (k + 1); omega, by show c.dropped ≤ 8 * (k + 1); omega⟩, ?_, z3, ?_, by show c.taken + 1 = tk + 1; rw [hQ.ta], hQ.re, hQ.rd, hQ.b0, ?_, tags_set (fun y hy => by have := hQ.tg y hy; omega) (by show (z.tags ++ [(k : Int)]).length ≤ k + 1; rw [List.length_append, List.length_singleton]; omega)⟩⟩
    · have hzg : zo ≠ gt ∨ zo = gt := (Decidable.em _).symm
      rw [app_blk hg (by show zo < (wr.alloc _).heap.size; simp; omega) (fun e => absurd e (hzo _ ha))]
      exact Below.heap_alloc wr _ zo hzl
    · show 2 * p.newest ≤ k + 1 + (Pace.upd p.st.fl _ _).length
      rw [show (Pace.upd p.st.fl x.num (Pace.withPk (k : Int) ln)).length = p.st.fl.length by simp [Pace.upd]]
      omega
    · rw [List.length_set]; exact hQ.len
    · show c.sent + c.dropped + Pace.waits (Pace.upd p.st.fl x.num (Pace.withPk (k : Int) ln)) = tk + 1
      rw [Pace.waits_enq hI.pi.wf.nums hx]
      have := hQ.sm
      omega
  -- Remove
  · rintro b k ck tk rf al m cl wr ⟨_, p, c, y, gt, sz, l, V, hP, hO, hQ⟩ hk h1
    have hb1 := hQ.bd.nw; have hb2 := hQ.bd.tk; have hb3 := hQ.bd.rf; have hb4 := hQ.bd.sn; have hb5 := hQ.bd.dr
    have hnw := hQ.nw
    have hsz : (wr.alloc (op k).obj).heap.size = wr.heap.size + 1 := by simp
    refine (pa_remove (hal (op k).obj hP) (by omega) (by omega) (op k).a).mono ?_
    rintro e w' ⟨v, rfl, y', hP', hs, hL⟩
    obtain ⟨hO', n4, n5⟩ := hO.next hP.olt (op k).obj hs
    refine ⟨v, _, rfl, n4, ?_⟩
    cases hx : lookI p.st.fl (op k).a with
    | none =>
      have e1 : remR p (op k).a = 5 := by unfold remR; rw [hx]
      have e2 : remP p (op k).a = p := by unfold remP; rw [hx]
      have e3 : remL p (op k).a = [] := by unfold remL; rw [hx]
      rw [e2, e3] at hP'
      rw [e1]
      exact .inl ⟨by omega, by omega, p, _, y', gt, sz, l, V, hP', hO', ⟨hQ.cl, ⟨by omega, by show c.taken ≤ k + 1; omega, by show c.refused ≤ k + 1; omega, by show c.sent ≤ 64 * (k + 1); omega, by show c.dropped + 0 ≤ 8 * (k + 1); omega⟩, by omega, hQ.oi, hQ.len, hQ.ta, hQ.re, hQ.rd, hQ.b0, hQ.sm, fun z hz' => by have := hQ.tg z hz'; omega⟩⟩
    | some x =>
      obtain ⟨x1, x2, x3, x4⟩ := lookI_some hx hP.inv.pi.wf.nums
      have e1 : remR p (op k).a = 0 := by unfold remR; rw [hx]
      have e2 : remP p (op k).a = p.remove x.num := by unfold remP; rw [hx]
      have e3 : remL p (op k).a = x.pk := by unfold remL; rw [hx]
      rw [e2, e3] at hP'
      rw [e3] at hL
      rw [e1]
      have hle := hP.inv.le x x1
      have hmn : m = p.newest := by rw [hO.ls.len]; exact hQ.len
      obtain ⟨ax, cx, hvx⟩ := row_len hL.row
      refine .inr ⟨rfl, ⟨ax, _, cx, hvx⟩, ?_, x.num - 1, hk, p, c, y', gt, sz, l, V, _, _, x, x1, by omega, x2.symm, hP', hP.inv, hO', hQ, hL, by have := hO.gl; omega⟩
      obtain ⟨e4, _⟩ := hO.ls.al1 (by omega)
      have := hO.ls.lt (by omega)
      rw [e4]
      intro q2
      injection q2 with q2
      have q3 : gt = wr.heap.size := q2
      omega
  · rintro b k ck tk rf al m cl a v wr ⟨_, p, c, y, gt, sz, l, V, n0, N, x, hx, hxn, hxa, hP, hI, hO, hQ, hL, hgn⟩ hk
    have hb1 := hQ.bd.nw; have hb2 := hQ.bd.tk; have hb3 := hQ.bd.rf; have hb4 := hQ.bd.sn; have hb5 := hQ.bd.dr
    have hnw := hQ.nw
    have hmn : m = p.newest := by rw [hO.ls.len]; exact hQ.len
    have hle := hI.le x hx
    have h8 := (hI.pi.wf.F x hx).few
    obtain ⟨z, z1, z2, z3, z4, z5⟩ := hQ.oi.remove hx rfl hI
    have ea : x.num - 1 = a := by omega
    rw [ea] at z1 z5
    have htg := hQ.tg z (List.mem_of_getElem? z1)
    obtain ⟨e2, _⟩ := hO.ls.al1 (by omega)
    obtain ⟨c0, c1, c2, c3, c4⟩ := hO.ls.c _ z z1
    have ham : a < m := by omega
    obtain ⟨ax, cx, rfl⟩ := row_len hL.row
    refine ⟨by omega, gt, e2, by omega, ham, by rw [← z2]; exact c3, ?_⟩
    refine (hO.ls.told z1 (by omega) x.pk h8 (r := []) (by rw [List.append_nil]; exact z3) (by omega) ax cx (fun j hj => ?_)).mono ?_
    · obtain ⟨g, cap, hv2, hn, hlt, hog, _⟩ := row_shape hL.row (by omega)
      injection hv2 with hv2
      refine ⟨g, 0, hv2, by omega, ?_⟩
      rw [Nat.zero_add]
      exact row_get0 hL.row hog (pkC_at hj).1
    · rintro e w' ⟨rfl, hL', hf'⟩
      have hz' : (l.set a { z with told := z.told + x.pk.length })[a]? = some { z with told := z.told + x.pk.length } := by
        rw [List.getElem?_set, if_pos rfl, if_pos (List.getElem?_eq_some_iff.1 z1).1]
      obtain ⟨d0, d1, d2, d3, d4⟩ := hL'.c _ _ hz'
      obtain ⟨ta, tc, hv⟩ := row_len d4
      refine ⟨rfl, fun zz hzz hzl => hf'.blk zz hzl hzz, ta, z.tags.length, tc, by rw [d0, hv], by rw [d1]; show some (Value.int .i64 ((z.told + x.pk.length : Nat) : Int)) = _; rw [z4], ⟨_, d3⟩, hL'.fz (by omega) _, fun j => ?_⟩
      have hd : Fr w' (w'.drewN j) (fun _ => False) := (Fr.refl w' _).drewN j
      have hLd : LS w (w'.drewN j) al m cl gt sz (l.set a { z with told := z.told + x.pk.length }) V y.own := hL'.kept (fr_of hd _) (fun _ _ q => q)
      have hch : Ch (w'.drewN j) ((w'.drewN j).setCell ⟨gt, a * 4 + 3, none⟩ (.bool true)) (fun x' o => x' = gt ∧ (o = a * 4 + 1 ∨ o = a * 4 + 2 ∨ o = a * 4 + 3)) := (Ch.refl _ _).setCell ⟨rfl, .inr (.inr rfl)⟩ _
      have hLs := hLd.lane hz' (z' := { z with told := z.told + x.pk.length, gone := true }) rfl hch ((Sh.refl _ gt).setCell _ _ _) (by rw [World.cell?_setCell_other _ _ _ _ (by intro q2; injection q2 with _ q2; omega)]; exact d1) (by rw [World.cell?_setCell_other _ _ _ _ (by intro q2; injection q2 with _ q2; omega)]; exact d2) (World.cell?_setCell_same' _ _ _ (by show (w'.cell? _).isSome = true; rw [d3]; rfl))
      rw [List.set_set] at hLs
      have hft : Fr wr ((w'.drewN j).setCell ⟨gt, a * 4 + 3, none⟩ (.bool true)) (fun x' => x' = gt) := (hf'.drewN j).trans (hch.fr2 (O := fun x' => x' = gt) fun x' o q => q.1) fun _ _ q => q
      refine ⟨by omega, p.remove x.num, _, y, gt, sz, _, V, hP.kept hft (fun x' hx' q2 => (hO.ls.gF (by omega)).1 (by rw [← q2]; exact hx')), hO.lanes hft (fun x' q2 => by rw [q2]; exact (hO.ls.gF (by omega)).2) hLs (hLs.lt (by omega)), ⟨hQ.cl, ⟨by show p.newest ≤ k + 1; omega, by show c.taken ≤ k + 1; omega, by show c.refused ≤ k + 1; omega, by show c.sent ≤ 64 * (k + 1); omega, by show c.dropped + _ ≤ 8 * (k + 1); omega⟩, ?_, z5, by rw [List.length_set]; exact hQ.len, hQ.ta, hQ.re, hQ.rd, hQ.b0, ?_, tags_set (fun y hy => by have := hQ.tg y hy; omega) (by show z.tags.length ≤ k + 1; omega)⟩⟩
      · have := gone_len hI.pi.wf.nums x.num
        show 2 * p.newest ≤ k + 1 + (Pace.gone p.st.fl x.num).length
        omega
      · have := Pace.waits_gone hI.pi.wf.nums hx
        have := hQ.sm
        show c.sent + (c.dropped + x.pk.length) + Pace.waits (Pace.gone p.st.fl x.num) = tk
        omega
  -- Poll
  · rintro b k ck tk rf al m cl wr ⟨_, p, c, y, gt, sz, l, V, hP, hO, hQ⟩ hk h1
    have hb1 := hQ.bd.nw; have hb2 := hQ.bd.tk; have hb3 := hQ.bd.rf; have hb4 := hQ.bd.sn; have hb5 := hQ.bd.dr
    have hnw := hQ.nw
    have hsz : (wr.alloc (op k).obj).heap.size = wr.heap.size + 1 := by simp
    have hgl := hO.gl
    by_cases hn : (op k).a ≤ 4000000000000000000
    · refine (pa_poll (hal (op k).obj hP) (hTr (hO.fr.alloc _)) (by omega) (by omega) (op k).a (op k).b hn).mono ?_
      rintro e w' ⟨v, rfl, n0, y', hP', hBA, hs, hn0⟩
      obtain ⟨hO', n4, n5⟩ := hO.next hP.olt (op k).obj hs
      have hI := hP.inv
      have ht := poll_len hI (now := (op k).a.toNat) (by omega) (op k).b.toNat
      obtain ⟨l', s1, s2, s3⟩ := hQ.oi.poll hI (now := (op k).a.toNat) (by omega) (op k).b.toNat
      have hcl := hQ.cl
      have emax : (max (ck : Int) (op k).a).toNat = max p.st.clock (op k).a.toNat := by omega
      obtain ⟨Ls, hL0, hLe, _, _, hLt⟩ := sents_at s1
      refine ⟨v, _, rfl, n4, .inr ⟨rfl, hk, _, _, y', gt, sz, l, l', V, (p.poll (op k).a.toNat (op k).b.toNat).1, n0, _, hP', hO', ⟨?_, ⟨Nat.le_trans hb1 (by omega), by show c.taken ≤ k + 1; omega, by show c.refused ≤ k + 1; omega, by show c.sent + _ ≤ 64 * (k + 1); omega, by show c.dropped ≤ 8 * (k + 1); omega⟩, ?_, s2, by rw [s3]; exact hQ.len, hQ.ta, hQ.re, hQ.rd, hQ.b0, ?_, fun z hz' => ?_⟩, by rw [emax]; exact s1, hBA.up, by omega, ht.1, sent8 ((hI.pi.tick (by omega)).admit) _, hQ.tg⟩⟩
      · rw [poll_clock, emax]
      · have := congrArg List.length (Pace.PS.poll_nums p (op k).a.toNat (op k).b.toNat)
        simp only [List.length_map] at this
        rw [this]
        show 2 * p.newest ≤ _
        omega
      · have h2 := Pace.poll_waits hI (now := (op k).a.toNat) (by omega) (op k).b.toNat
        have h3 := hQ.sm
        have e5 : total (p.poll (op k).a.toNat (op k).b.toNat).1 = Pace.tot (p.poll (op k).a.toNat (op k).b.toNat).1 := rfl
        show c.sent + total (p.poll (op k).a.toNat (op k).b.toNat).1 + c.dropped + _ = tk
        rw [e5]
        omega
      · rw [← hLe] at hz'
        obtain ⟨z0, a1, a2⟩ := hLt _ z hz'
        have := hQ.tg z0 a1
        rw [a2] at this
        omega
    · refine (pa_poll_bad (hal (op k).obj hP) (op k).a (op k).b (by omega)).mono ?_
      rintro e w' ⟨rfl, rfl⟩
      obtain ⟨hO', n4, n5⟩ := hO.next hP.olt (op k).obj (Stp.refl _ _)
      refine ⟨.slice none 0 0, 1, rfl, n4, .inl ⟨by omega, hk, p, c, y, gt, sz, l, l, V, [], (wr.alloc (op k).obj).heap.size, fun _ => True, hal _ hP, hO', ⟨hQ.cl, ⟨by omega, by omega, by omega, by omega, by omega⟩, by omega, hQ.oi, hQ.len, hQ.ta, hQ.re, hQ.rd, hQ.b0, hQ.sm, fun z hz' => by have := hQ.tg z hz'; omega⟩, .nil l, ⟨⟨[], World.ownsRow_nil _ _ _ _, .nil⟩, fun g hg => by cases hg⟩, by omega, Nat.zero_le _, fun q hq => (by cases hq), hQ.tg⟩⟩
  · rintro b k ck tk rf al m cl v wr ⟨_, p, c, y, gt, sz, l, l', V, bs, n0, N, hP, hO, hQ, hS, hB, hg, h64, h8, htg⟩ hk
    have hmn : m = l.length := hO.ls.len
    have hb1 := hQ.bd.nw
    have hmn2 : l'.length = p.newest := hQ.len
    obtain ⟨Ls, hL0, hLe, _, hLn, _⟩ := sents_at hS
    have hll : l'.length = l.length := by rw [← hLe]; exact hLn _
    refine (sent_any (k := k) hP hO hS hB hg (by omega) h64 h8 (fun z hz' => by have := htg z hz'; omega)).mono ?_
    rintro e w' ⟨rfl, hP', hO'⟩
    exact ⟨rfl, by omega, p, c, y, gt, sz, l', V, hP', hO', hQ⟩
  -- another command
  · rintro b k ck tk rf al m cl wr ⟨_, p, c, y, gt, sz, l, V, hP, hO, hQ⟩ hk
    obtain ⟨hO', n4, n5⟩ := hO.next hP.olt (op k).obj (Stp.refl _ _)
    have hb1 := hQ.bd.nw; have hb2 := hQ.bd.tk; have hb3 := hQ.bd.rf; have hb4 := hQ.bd.sn; have hb5 := hQ.bd.dr
    have hnw := hQ.nw
    exact ⟨by omega, p, c, y, gt, sz, l, V, hal _ hP, hO', ⟨hQ.cl, ⟨by omega, by omega, by omega, by omega, by omega⟩, by omega, hQ.oi, hQ.len, hQ.ta, hQ.re, hQ.rd, hQ.b0, hQ.sm, fun z hz' => by have := hQ.tg z hz'; omega⟩⟩
  -- the end
  · rintro b ck tk rf al m cl wr ⟨_, p, c, y, gt, sz, l, V, hP, hO, hQ⟩
    exact ended_any hP hO hQ hb (Nat.lt_of_lt_of_le hz hO.fr.size) (hTr hO.fr)
end Go.Proofs.YtogdekjklbbbiaaDoor
