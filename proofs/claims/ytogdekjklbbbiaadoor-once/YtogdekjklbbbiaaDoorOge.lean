import Derived.Test.YtogdekjklbbbiaaDoorPac
import Derived.Test.YtogdekjklbbbiaaDoorOac
import Derived.Test.YtogdekjklbbbiaaDoorGac
set_option maxRecDepth 100000
namespace Go.Proofs.YtogdekjklbbbiaaDoor
open Go.ChangeShapes Go.WideShapes Go.ChangeAt Go.RowKit
set_option linter.unusedSimpArgs false
set_option linter.unusedVariables false

/-- A batch whose stamp may be -1. -/
abbrev BtI := Nat × Int × List (Int × Nat)
def up (q : Bt) : BtI := (q.1, (q.2.1 : Int), q.2.2)
/-- A batch of a load in memory. -/
def LBi (w : World) (n0 : Nat) (N : Nat → Prop) (bv pv : Value) (L : Nat) (px : List Value) (c3 : List Value) (q : BtI) : Prop :=
  ∃ g o, c3 = [.int .i64 (q.1 : Int), .int .i64 (q.2.1 : Int), .slice (some ⟨g, o, none⟩) q.2.2.length q.2.2.length] ∧ n0 ≤ g ∧ g < w.heap.size ∧ N g ∧ g ≠ L ∧ bv.ownBlock ≠ some g ∧
    ((pv.ownBlock = some g ∧ ∀ j u, (pkC q.2.2)[j]? = some u → px[o + j]? = some u) ∨ (pv.ownBlock ≠ some g ∧ pkAt w g o q.2.2))
def totalI (bs : List BtI) : Nat := (bs.map (·.2.2.length)).sum
structure LDsi (w : World) (L n0 : Nat) (N : Nat → Prop) (bs : List BtI) (bv pv : Value) (px : List Value) (cs : List (List Value)) : Prop where
  c0 : w.cell? ⟨L, 0, none⟩ = some bv
  c1 : w.cell? ⟨L, 1, none⟩ = some pv
  fz : ∀ o, w.frozen? ⟨L, o, none⟩ = false
  rb : w.ownsRow n0 67 3 bv bs.length cs.flatten
  rp : w.ownsRow n0 102 2 pv (totalI bs) px
  bp : ∀ g, bv.ownBlock = some g → pv.ownBlock ≠ some g
  bL : bv.ownBlock ≠ some L
  pL : pv.ownBlock ≠ some L
  nL : N L
  n0L : n0 ≤ L
  nb : ∀ g, bv.ownBlock = some g → N g
  np : ∀ g, pv.ownBlock = some g → N g
  all : Pace.All2 (LBi w n0 N bv pv L px) cs bs
def LDi (w : World) (L n0 : Nat) (N : Nat → Prop) (bs : List BtI) : Prop := ∃ bv pv px cs, LDsi w L n0 N bs bv pv px cs
theorem LDsi.ltL {w : World} {L n0 : Nat} {N : Nat → Prop} {bs : List BtI} {bv pv : Value} {px : List Value} {cs : List (List Value)} (h : LDsi w L n0 N bs bv pv px cs) : L < w.heap.size := World.block_lt_of_cell? _ _ h.c0
theorem LDi.kept {w w' : World} {L n0 : Nat} {N N' : Nat → Prop} {bs : List BtI} (h : LDi w L n0 N bs) {O : Nat → Prop} (hf : Fr w w' O) (hO : ∀ k, k < w.heap.size → N k → ¬ O k) (hN : ∀ k, k < w.heap.size → N k → N' k) : LDi w' L n0 N' bs := by
  obtain ⟨bv, pv, px, cs, h⟩ := h
  have hL := h.ltL
  have hk : ∀ k, k < w.heap.size → N k → w'.heap[k]? = w.heap[k]? := fun k h1 h2 => hf.blk k h1 (hO k h1 h2)
  have hLk := hk L hL h.nL
  refine ⟨bv, pv, px, cs, ⟨?_, ?_, ?_, ?_, ?_, h.bp, h.bL, h.pL, hN L hL h.nL, h.n0L, ?_, ?_, ?_⟩⟩
  · exact (World.cell?_of_block (w := w) (a := ⟨L, 0, none⟩) hLk).trans h.c0
  · exact (World.cell?_of_block (w := w) (a := ⟨L, 1, none⟩) hLk).trans h.c1
  · exact fun o => (frozen_of hLk o).trans (h.fz o)
  · exact row_kept0 h.rb fun g hg => hk g (h.rb.lt g hg).2 (h.nb g hg)
  · exact row_kept0 h.rp fun g hg => hk g (h.rp.lt g hg).2 (h.np g hg)
  · exact fun g hg => hN g (h.rb.lt g hg).2 (h.nb g hg)
  · exact fun g hg => hN g (h.rp.lt g hg).2 (h.np g hg)
  · refine h.all.mono fun c q hq => ?_
    obtain ⟨g, o, e, h1, h2, h3, h4, h5, h6⟩ := hq
    refine ⟨g, o, e, h1, Nat.lt_of_lt_of_le h2 hf.size, hN g h2 h3, h4, h5, ?_⟩
    rcases h6 with q | ⟨q1, q2⟩
    · exact .inl q
    · refine .inr ⟨q1, fun j u hu => ?_⟩
      exact (World.cell?_of_block (w := w) (a := ⟨g, o + j, none⟩) (hk g h2 h3)).trans (q2 j u hu)
/-- A batch is put behind the others. -/
theorem ld_addI {w : World} {L n0 : Nat} {N : Nat → Prop} {bs : List BtI} (h : LDi w L n0 N bs) (hN : ∀ k, w.heap.size ≤ k → N k) (hn0 : n0 ≤ w.heap.size) (hb : bs.length ≤ 100) (ht : totalI bs ≤ 1000) (q : BtI) (hm0 : 0 < q.2.2.length) (hm : q.2.2.length ≤ 8) (g c : Nat) (hc : pkAt w g 0 q.2.2) :
    Calls Tryd.prog 88 #[.pointer (some ⟨L, 0, none⟩), .int .i64 (q.1 : Int), .int .i64 (q.2.1 : Int), .slice (some ⟨g, 0, none⟩) q.2.2.length c] w fun e w' => e = .returned (.tuple #[]) ∧ LDi w' L n0 N (bs ++ [q]) ∧ Fr w w' (fun k => N k ∧ n0 ≤ k) := by
  obtain ⟨bv, pv, px, cs, h⟩ := h
  refine (ladd_walk L n0 bs.length (totalI bs) q.2.2.length c (q.1 : Int) (q.2.1 : Int) bv pv cs.flatten px (pkC q.2.2) ⟨g, 0, none⟩ w h.c0 h.c1 h.fz h.rb h.rp hn0 h.bp h.bL h.pL hb ht hm0 hm (pkC_length _) ?_ (pkC_one _)).mono ?_
  · intro j u hu
    have := hc j u hu
    rw [add_lit]
    exact this
  · rintro e w' ⟨rfl, bv', pv', g', c0, c1, hg', rb, rp, k1, k2, k3, k4, k5, o1, o2, o3, o4, fz, blk⟩
    have hpvN : ∀ k, pv'.ownBlock = some k → N k := fun k hk => by
      rcases k1 with q1 | q1
      · exact h.np k (by rw [← q1]; exact hk)
      · rw [hg'] at hk; injection hk with hk; exact hN k (by omega)
    have hbvN : ∀ k, bv'.ownBlock = some k → N k := fun k hk => by
      rcases k2 with q1 | q1
      · exact h.nb k (by rw [← q1]; exact hk)
      · exact hN k (q1 k hk)
    have hg0 : n0 ≤ g' := by
      have := (rp.lt g' hg').1; exact this
    have hgL : g' < w'.heap.size := (rp.lt g' hg').2
    refine ⟨rfl, ⟨bv', pv', px ++ pkC q.2.2, cs ++ [[.int .i64 (q.1 : Int), .int .i64 (q.2.1 : Int), .slice (some ⟨g', totalI bs * 2, none⟩) q.2.2.length q.2.2.length]], ⟨c0, c1, fz, ?_, ?_, k3, k4, k5, h.nL, h.n0L, hbvN, hpvN, ?_⟩⟩, ⟨o1, o2, o3, o4, ?_⟩⟩
    · have e1 : (bs ++ [q]).length = bs.length + 1 := by simp
      rw [e1, List.flatten_append]
      simpa using rb
    · have e1 : totalI (bs ++ [q]) = totalI bs + q.2.2.length := by simp [totalI]
      rw [e1]; exact rp
    · refine All2.snoc (h.all.mono fun c3 z hz => ?_) ?_
      · obtain ⟨g1, o, e, h1, h2, h3, h4, h5, h6⟩ := hz
        have hb1 : bv'.ownBlock ≠ some g1 := fun hx => by
          rcases k2 with q1 | q1
          · exact h5 (by rw [← q1]; exact hx)
          · have := q1 g1 hx; omega
        refine ⟨g1, o, e, h1, Nat.lt_of_lt_of_le h2 o4, h3, h4, hb1, ?_⟩
        by_cases hpp : pv'.ownBlock = some g1
        · refine .inl ⟨hpp, fun j u hu => ?_⟩
          have hsame : pv.ownBlock = some g1 := by
            rcases k1 with q1 | q1
            · rw [← q1]; exact hpp
            · rw [hg'] at hpp; injection hpp with hpp; omega
          rcases h6 with ⟨_, q2⟩ | ⟨q1, _⟩
          · have hx := q2 j u hu
            rw [List.getElem?_append_left ((List.getElem?_eq_some_iff.1 hx).1)]
            exact hx
          · exact absurd hsame q1
        · refine .inr ⟨hpp, fun j u hu => ?_⟩
          have hblk := blk g1 h2 h4 h5 (fun _ => hpp)
          rw [World.cell?_of_block (w := w) (a := ⟨g1, o + j, none⟩) hblk]
          rcases h6 with ⟨q1, q2⟩ | ⟨_, q2⟩
          · exact row_get0 h.rp q1 (q2 j u hu)
          · exact q2 j u hu
      · refine ⟨g', totalI bs * 2, rfl, hg0, hgL, hpvN g' hg', fun e => k5 (by rw [hg', e]), fun e => k3 g' e hg', .inl ⟨hg', fun j u hu => ?_⟩⟩
        have hl := h.rp.1
        rw [List.getElem?_append_right (by omega), hl, Nat.add_sub_cancel_left]
        exact hu
    · intro k hk hn
      exact blk k hk (fun e => hn (by rw [e]; exact ⟨h.nL, h.n0L⟩)) (fun e => hn ⟨h.nb k e, (h.rb.lt k e).1⟩) (fun e => absurd ⟨h.np k e, (h.rp.lt k e).1⟩ hn)
/-- A load made anew. -/
theorem ld_newI {w w' : World} {L : Nat} {pv : Value} {N : Nat → Prop} (hN : ∀ k, w.heap.size ≤ k → N k) (hg : w.grownBy w' none) (hL : w.heap.size ≤ L) (hh : w'.heap[L]? = some (.cells #[.slice none 0 0, pv] 169)) (hp : w'.ownsRow w.heap.size 102 2 pv 0 []) (hpL : pv.ownBlock ≠ some L) : LDi w' L w.heap.size N [] := by
  refine ⟨.slice none 0 0, pv, [], [], ⟨?_, ?_, ?_, ⟨rfl, .inl ⟨rfl, rfl⟩⟩, hp, ?_, ?_, hpL, hN L hL, hL, ?_, ?_, .nil⟩⟩
  · rw [heap_cell hh]; rfl
  · rw [heap_cell hh]; rfl
  · intro o; simp [World.frozen?, hh]
  · intro g hg'; cases hg'
  · intro hg'; cases hg'
  · intro g hg'; cases hg'
  · intro g hg'; exact hN g (hp.lt g hg').1
/-- A batch of an answer. -/
def BAti (w : World) (n0 : Nat) (N : Nat → Prop) (v : Value) (c3 : List Value) (q : BtI) : Prop :=
  ∃ g o, c3 = [.int .i64 (q.1 : Int), .int .i64 (q.2.1 : Int), .slice (some ⟨g, o, none⟩) q.2.2.length q.2.2.length] ∧ n0 ≤ g ∧ g < w.heap.size ∧ N g ∧ pkAt w g o q.2.2 ∧ v.ownBlock ≠ some g
/-- An answer of batches. -/
structure BAi (w : World) (n0 : Nat) (N : Nat → Prop) (bs : List BtI) (v : Value) : Prop where
  row : ∃ cs, w.ownsRow n0 67 3 v bs.length cs.flatten ∧ Pace.All2 (BAti w n0 N v) cs bs
  nn : ∀ g, v.ownBlock = some g → N g
theorem LDsi.ba {w : World} {L n0 : Nat} {N : Nat → Prop} {bs : List BtI} {bv pv : Value} {px : List Value} {cs : List (List Value)} (h : LDsi w L n0 N bs bv pv px cs) : BAi w n0 N bs bv := by
  refine ⟨⟨cs, h.rb, h.all.mono fun c q hq => ?_⟩, h.nb⟩
  obtain ⟨g, o, e, h1, h2, h3, h4, h5, h6⟩ := hq
  refine ⟨g, o, e, h1, h2, h3, fun j u hu => ?_, h5⟩
  rcases h6 with ⟨q1, q2⟩ | ⟨q1, q2⟩
  · exact row_get0 h.rp q1 (q2 j u hu)
  · exact q2 j u hu
theorem BAi.kept {w w' : World} {n0 : Nat} {N N' : Nat → Prop} {bs : List BtI} {v : Value} (h : BAi w n0 N bs v) {O : Nat → Prop} (hf : Fr w w' O) (hO : ∀ k, k < w.heap.size → n0 ≤ k → N k → ¬ O k) (hN : ∀ k, k < w.heap.size → N k → N' k) : BAi w' n0 N' bs v := by
  obtain ⟨⟨cs, hr, ha⟩, hn⟩ := h
  have hk : ∀ k, k < w.heap.size → n0 ≤ k → N k → w'.heap[k]? = w.heap[k]? := fun k h1 h0 h2 => hf.blk k h1 (hO k h1 h0 h2)
  refine ⟨⟨cs, row_kept0 hr fun g hg => hk g (hr.lt g hg).2 (hr.lt g hg).1 (hn g hg), ha.mono fun c q hq => ?_⟩, fun g hg => hN g (hr.lt g hg).2 (hn g hg)⟩
  obtain ⟨g, o, e, h1, h2, h3, h4, h5⟩ := hq
  exact ⟨g, o, e, h1, Nat.lt_of_lt_of_le h2 hf.size, hN g h2 h3, fun j u hu => (World.cell?_of_block (w := w) (a := ⟨g, o + j, none⟩) (hk g h2 h1 h3)).trans (h4 j u hu), h5⟩
theorem BAi.low {w : World} {n0 n1 : Nat} {N : Nat → Prop} {bs : List BtI} {v : Value} (h : BAi w n0 N bs v) (hn : n1 ≤ n0) : BAi w n1 N bs v := by
  obtain ⟨⟨cs, hr, ha⟩, hnn⟩ := h
  refine ⟨⟨cs, ⟨hr.1, ?_⟩, ha.mono fun c q hq => ?_⟩, hnn⟩
  · rcases hr.2 with q | ⟨g, cap, cur, h1, h2, h3⟩
    · exact .inl q
    · exact .inr ⟨g, cap, cur, h1, Nat.le_trans hn h2, h3⟩
  · obtain ⟨g, o, e, h1, h2⟩ := hq
    exact ⟨g, o, e, Nat.le_trans hn h1, h2⟩
theorem BA.up {w : World} {n0 : Nat} {N : Nat → Prop} {bs : List Bt} {v : Value} (h : BA w n0 N bs v) : BAi w n0 N (bs.map up) v := by
  obtain ⟨⟨cs, hr, ha⟩, hn⟩ := h
  refine ⟨⟨cs, by rw [List.length_map]; exact hr, ?_⟩, hn⟩
  clear hr hn
  induction ha with
  | nil => exact .nil
  | cons h1 _ ih => exact .cons h1 ih
theorem totalI_up (bs : List Bt) : totalI (bs.map up) = total bs := by simp [totalI, total, up, List.map_map, Function.comp_def]
end Go.Proofs.YtogdekjklbbbiaaDoor

namespace Go.Proofs.YtogdekjklbbbiaaDoor
open Go.ChangeShapes Go.WideShapes Go.ChangeAt Go.RowKit
set_option linter.unusedSimpArgs false
set_option linter.unusedVariables false

/-! ### Close -/
def flD : Pace.Fl := ⟨0, 0, 0, 0, [], 0⟩
/-- What Close drops. -/
def clB (l : List Pace.Fl) : List BtI := l.flatMap fun f => if f.pk.length = 0 then [] else [(f.num, -1, f.pk)]
def avO : Value → Option Addr | .slice a _ _ => a | _ => none
def cvO : Value → Nat | .slice _ _ c => c | _ => 0
/-- A closed pacer. -/
structure PZ (w : World) (b : Nat) (y : Lay) (c : Cn) : Prop where
  tb : y.tag b = .self
  t0 : y.tag 0 = .none
  lt : ∀ k, y.own k → k < w.heap.size
  c6 : w.cell? ⟨b, 6, none⟩ = some (.int .i64 (c.taken : Int))
  c7 : w.cell? ⟨b, 7, none⟩ = some (.int .i64 (c.refused : Int))
  c8 : w.cell? ⟨b, 8, none⟩ = some (.int .i64 (c.sent : Int))
  c9 : w.cell? ⟨b, 9, none⟩ = some (.int .i64 (c.dropped : Int))
  c10 : w.cell? ⟨b, 10, none⟩ = some (.int .i64 (c.read : Int))
  c11 : w.cell? ⟨b, 11, none⟩ = some (.int .i64 (c.bad : Int))
  c12 : w.cell? ⟨b, 12, none⟩ = some (.int .u32 1)
  c15 : w.cell? ⟨b, 15, none⟩ = some (.bool true)
theorem PZ.own {w : World} {b : Nat} {y : Lay} {c : Cn} (h : PZ w b y c) : y.own b := by rw [Lay.own, h.tb]; simp
theorem PZ.kept {w w' : World} {b : Nat} {y : Lay} {c : Cn} (h : PZ w b y c) {O : Nat → Prop} (hf : Fr w w' O) (hd : ∀ k, y.own k → ¬ O k) : PZ w' b y c := by
  have hb : w'.heap[b]? = w.heap[b]? := hf.blk b (h.lt b h.own) (hd b h.own)
  have hc : ∀ o, w'.cell? ⟨b, o, none⟩ = w.cell? ⟨b, o, none⟩ := fun o => World.cell?_of_block (w := w) (a := ⟨b, o, none⟩) hb
  exact ⟨h.tb, h.t0, fun k hk => Nat.lt_of_lt_of_le (h.lt k hk) hf.size, by rw [hc]; exact h.c6, by rw [hc]; exact h.c7, by rw [hc]; exact h.c8, by rw [hc]; exact h.c9, by rw [hc]; exact h.c10, by rw [hc]; exact h.c11, by rw [hc]; exact h.c12, by rw [hc]; exact h.c15⟩
theorem getD_mem {l : List Pace.Fl} {k : Nat} (h : k < l.length) : l.getD k flD ∈ l ∧ l[k]? = some (l.getD k flD) := by
  have e : l[k]? = some l[k] := List.getElem?_eq_getElem h
  have : l.getD k flD = l[k] := by simp [List.getD, e]
  rw [this]
  exact ⟨List.getElem_mem h, e⟩
theorem clB_succ {l : List Pace.Fl} {k : Nat} (h : k < l.length) : clB (l.take (k + 1)) = clB (l.take k) ++ (if (l.getD k flD).pk.length = 0 then [] else [((l.getD k flD).num, -1, (l.getD k flD).pk)]) := by
  have e : l.take (k + 1) = l.take k ++ [l.getD k flD] := by
    rw [List.take_add_one, (getD_mem h).2]; rfl
  rw [e]
  simp [clB]
theorem clB_cons (f : Pace.Fl) (l : List Pace.Fl) : clB (f :: l) = (if f.pk.length = 0 then [] else [(f.num, -1, f.pk)]) ++ clB l := rfl
theorem clB_len (l : List Pace.Fl) : (clB l).length ≤ l.length := by
  induction l with
  | nil => exact Nat.le_refl _
  | cons f l ih =>
    rw [clB_cons, List.length_append, List.length_cons]
    split
    · rw [List.length_nil]; omega
    · rw [List.length_cons, List.length_nil]; omega
theorem totalI_append (a b : List BtI) : totalI (a ++ b) = totalI a + totalI b := by simp [totalI]
theorem totalI_one (q : BtI) : totalI [q] = q.2.2.length := by simp [totalI]
theorem clB_total {l : List Pace.Fl} (h : ∀ f ∈ l, f.pk.length ≤ 8) : totalI (clB l) ≤ 8 * l.length := by
  induction l with
  | nil => simp [clB, totalI]
  | cons f l ih =>
    have h1 := ih fun x hx => h x (List.mem_cons_of_mem _ hx)
    have h2 := h f (List.mem_cons_self ..)
    rw [clB_cons, totalI_append, List.length_cons]
    split
    · have : totalI ([] : List BtI) = 0 := rfl
      omega
    · rw [totalI_one]
      show f.pk.length + _ ≤ _
      omega
set_option maxHeartbeats 1000000 in
/-- All flows are dropped. -/
theorem pm_drop {w0 w1 : World} {b : Nat} {y : Lay} {s : Pace.St} {nw : Nat} {P : List Pace.Cmd} {c : Cn} (h : PM w0 b y s nw P c) (hi : Pace.PI s P) (hfew : s.fl.length ≤ 8) (hch : Ch w0 w1 (fun a o => a = b ∧ (o = 13 ∨ o = 15))) (hdr : c.dropped < 8000000000000000000) :
    Calls Tryd.prog 63 #[.pointer (some ⟨b, 0, none⟩)] w1 fun e w' => ∃ a n cc, e = .returned (.slice a n cc) ∧ BAi w' w1.heap.size (fun k => y.tag k = .none) (clB s.fl) (.slice a n cc) ∧ Fr w1 w' (fun k => k = b) ∧ (∀ o, w'.frozen? ⟨b, o, none⟩ = w1.frozen? ⟨b, o, none⟩) ∧ (∀ o, o ≠ 3 → o ≠ 4 → o ≠ 5 → o ≠ 9 → w'.cell? ⟨b, o, none⟩ = w1.cell? ⟨b, o, none⟩) ∧ w'.cell? ⟨b, 9, none⟩ = some (.int .i64 ((c.dropped + totalI (clB s.fl) : Nat) : Int)) := by
  have hsz : w1.heap.size = w0.heap.size := hch.size
  have hblk : ∀ k, k ≠ b → w1.heap[k]? = w0.heap[k]? := fun k hk => hch.blk k fun o q => hk q.1
  have hcell : ∀ o, o ≠ 13 → o ≠ 15 → w1.cell? ⟨b, o, none⟩ = w0.cell? ⟨b, o, none⟩ := fun o h1 h2 => hch.cell b o fun q => by
    rcases q.2 with q | q
    · exact h1 q
    · exact h2 q
  have hne : ∀ k t, y.tag k = t → t ≠ .self → k ≠ b := fun k t e hn e2 => hn (by rw [← e, e2]; exact h.tb)
  have hF1 : ∀ f ∈ s.fl, FA w1 (y.B f.num) f (y.cr f.num) (y.rk f.num) (y.bt f.num) (y.V f.num) := fun f hf => (h.fl f hf).kept (hblk _ (hne _ _ (h.tl f hf) (by simp))) fun g hg => hblk _ (hne _ _ (h.tk f hf g hg) (by simp))
  have hR1 := row_kept h.rf (w' := w1) fun g hg => hblk g (hne g _ (h.tf g hg) (by simp))
  have hlt : ∀ k t, y.tag k = t → t ≠ .none → k < w1.heap.size := fun k t e hn => by rw [hsz]; exact h.lt k (h.own_of e hn)
  have hb1 : b < w1.heap.size := hlt b _ h.tb (by simp)
  obtain ⟨a3, cap3, hfv⟩ := row_len h.rf
  have hc3 := h.pb.c3
  rw [hfv, ← hcell 3 (by omega) (by omega)] at hc3
  have hN : ∀ k, w1.heap.size ≤ k → y.tag k = .none := fun k hk => Classical.byContradiction fun hne => by have := h.lt k hne; omega
  have hf8 : ∀ f ∈ s.fl, f.pk.length ≤ 8 := fun f hf => (hi.wf.F f hf).few
  have hrow : ∀ k, k < s.fl.length → ∃ g, a3 = some ⟨g, 0, none⟩ ∧ y.tag g = .rowF ∧ w1.cell? ⟨g, k, none⟩ = some (.pointer (some ⟨y.B (s.fl.getD k flD).num, 0, none⟩)) := fun k hk => by
    obtain ⟨g, cap, hv, _, _, hvg, _⟩ := row_shape hR1 (by omega)
    refine ⟨g, ?_, h.tf g hvg, row_get0 hR1 hvg ?_⟩
    · rw [hfv] at hv
      injection hv
    · rw [List.getElem?_map, (getD_mem hk).2]; rfl
  have hVv : ∀ f ∈ s.fl, y.V f.num = .slice (avO (y.V f.num)) f.pk.length (cvO (y.V f.num)) := fun f hf => by
    obtain ⟨a, cc, hv⟩ := row_len (hF1 f hf).row
    rw [hv]; rfl
  refine (drop_walk b s.fl.length c.dropped a3 cap3 (fun k => y.B (s.fl.getD k flD).num) (fun k => ((s.fl.getD k flD).num : Int)) (fun k => avO (y.V (s.fl.getD k flD).num)) (fun k => (s.fl.getD k flD).pk.length) (fun k => cvO (y.V (s.fl.getD k flD).num)) w1
    (fun L k wr => Fr w1 wr (fun _ => False) ∧ LDi wr L w1.heap.size (fun k => y.tag k = .none) (clB (s.fl.take k))) (by omega) ?_ (by omega) ?_ ?_ ?_ ?_ ?_ ?_).mono ?_
  · intro k
    rcases Nat.lt_or_ge k s.fl.length with q | q
    · exact hf8 _ (getD_mem q).1
    · show (s.fl.getD k flD).pk.length ≤ 8
      simp [List.getD, List.getElem?_eq_none q, flD]
  · have hx : ∃ (len : Nat → Nat), ∀ f ∈ s.fl, len (y.B f.num) = f.pk.length := by
      refine ⟨fun k => match y.tag k with | .flow m => ((Pace.look s.fl m).map (·.pk.length)).getD 0 | _ => 0, fun f hf => ?_⟩
      simp only [h.tl f hf, Pace.look_of_mem hi.wf.nums hf]
      rfl
    obtain ⟨len, hlen⟩ := hx
    refine (newload_walk b (s.fl.map fun f => y.B f.num) len w1 a3 cap3 (by rw [List.length_map]; exact hc3) (by simpa using hfew) ?_ ?_ ?_).mono ?_
    · intro x hx
      obtain ⟨f, hf, rfl⟩ := List.mem_map.1 hx
      rw [hlen f hf]; exact hf8 f hf
    · intro k x hk
      rw [List.getElem?_map] at hk
      have hkl : k < s.fl.length := by
        cases hz : s.fl[k]? with
        | none => rw [hz] at hk; cases hk
        | some f => exact (List.getElem?_eq_some_iff.1 hz).1
      rw [(getD_mem hkl).2] at hk
      simp at hk
      obtain ⟨g, e1, _, e2⟩ := hrow k hkl
      refine ⟨g, e1, ?_⟩
      rw [e2, ← hk]
      simp [List.getD]
    · intro x hx
      obtain ⟨f, hf, rfl⟩ := List.mem_map.1 hx
      exact ⟨_, _, by rw [hlen f hf, ← hVv f hf]; exact (hF1 f hf).c5⟩
    · rintro e w' ⟨L, pv, rfl, hg, hL, hh, hp, hpL⟩
      have hfr : Fr w1 w' (fun _ => False) := (World.grownBy.fr hg).weak fun k _ q => by cases q
      exact ⟨L, rfl, hfr, by simpa [clB] using ld_newI hN hg hL hh hp hpL⟩
  · rintro L wr ⟨hf, _⟩
    exact (World.cell?_of_block (w := w1) (a := ⟨b, 3, none⟩) (hf.blk b hb1 fun q => q)).trans hc3
  · rintro L k wr ⟨hf, _⟩ hk
    obtain ⟨g, e1, e2, e3⟩ := hrow k hk
    have hm := (getD_mem hk).1
    have hx := hlt _ _ (h.tl _ hm) (by simp)
    have hxc : ∀ o, wr.cell? ⟨y.B (s.fl.getD k flD).num, o, none⟩ = w1.cell? ⟨y.B (s.fl.getD k flD).num, o, none⟩ := fun o => World.cell?_of_block (w := w1) (a := ⟨_, o, none⟩) (hf.blk _ hx fun q => q)
    refine ⟨g, e1, (World.cell?_of_block (w := w1) (a := ⟨g, k, none⟩) (hf.blk g (hlt g _ e2 (by simp)) fun q => q)).trans e3, ?_, ?_⟩
    · rw [hxc]; exact (hF1 _ hm).c0
    · rw [hxc, ← hVv _ hm]; exact (hF1 _ hm).c5
  · rintro L k wr ⟨hf, hL⟩ hk h0
    refine ⟨hf, ?_⟩
    rw [clB_succ hk, if_pos h0, List.append_nil]; exact hL
  · rintro L k wr ⟨hf, hL⟩ hk h0
    have hm := (getD_mem hk).1
    have hfd : Fr w1 (wr.drewN 1) (fun _ => False) := hf.drewN 1
    have hLd : LDi (wr.drewN 1) L w1.heap.size (fun k => y.tag k = .none) (clB (s.fl.take k)) := hL.kept (O := fun _ => False) ((Fr.refl _ _).drewN 1) (fun _ _ _ q => q) (fun _ _ q => q)
    have hx := hlt _ _ (h.tl _ hm) (by simp)
    have hFd : FA (wr.drewN 1) _ _ _ _ _ _ := (hF1 _ hm).kept (hfd.blk _ hx fun q => q) fun g hg => hfd.blk g (hlt g _ (h.tk _ hm g hg) (by simp)) fun q => q
    obtain ⟨g, cap, hv, _, _, hvg, _⟩ := row_shape hFd.row h0
    have hbl : (clB (s.fl.take k)).length ≤ 100 := by
      have := clB_len (s.fl.take k)
      have h2 : (s.fl.take k).length ≤ s.fl.length := by simp; omega
      omega
    have htt : totalI (clB (s.fl.take k)) ≤ 1000 := by
      have := clB_total (l := s.fl.take k) fun f hf => hf8 f (List.mem_of_mem_take hf)
      have h2 : (s.fl.take k).length ≤ s.fl.length := by simp; omega
      omega
    have hvv := hVv _ hm
    rw [hv] at hvv
    have hcv : avO (y.V (s.fl.getD k flD).num) = some ⟨g, 0, none⟩ ∧ cvO (y.V (s.fl.getD k flD).num) = cap := by rw [hv]; exact ⟨rfl, rfl⟩
    show Calls Tryd.prog 88 #[_, _, _, .slice (avO _) _ (cvO _)] _ _
    rw [hcv.1, hcv.2]
    refine (ld_addI hLd (fun q hq => hN q (Nat.le_trans hf.size hq)) hf.size hbl htt ((s.fl.getD k flD).num, -1, (s.fl.getD k flD).pk) h0 (hf8 _ hm) g cap ?_).mono ?_
    · intro j u hu
      rw [Nat.zero_add]
      exact row_get0 hFd.row hvg hu
    · rintro e w' ⟨rfl, hL', hfr⟩
      have hfw : Fr w1 w' (fun _ => False) := hfd.trans hfr fun n hn q => by omega
      have hxc : ∀ o, w'.cell? ⟨y.B (s.fl.getD k flD).num, o, none⟩ = w1.cell? ⟨y.B (s.fl.getD k flD).num, o, none⟩ := fun o => World.cell?_of_block (w := w1) (a := ⟨_, o, none⟩) (hfw.blk _ hx fun q => q)
      refine ⟨rfl, ⟨hfw, ?_⟩, ?_, ?_⟩
      · rw [clB_succ hk, if_neg (by omega)]; exact hL'
      · rw [hxc]; exact (hF1 _ hm).c0
      · rw [hxc]
        show _ = some (Value.slice _ _ _)
        have := (hF1 _ hm).c5
        rw [hv] at this
        exact this
  · rintro L wr ⟨hf, bv, pv, px, cs, hL⟩
    rw [List.take_length] at hL
    have hbc : ∀ o, wr.cell? ⟨b, o, none⟩ = w1.cell? ⟨b, o, none⟩ := fun o => World.cell?_of_block (w := w1) (a := ⟨b, o, none⟩) (hf.blk b hb1 fun q => q)
    obtain ⟨a0, q0, hbv⟩ := row_len hL.rb
    obtain ⟨a1, q1, hpv⟩ := row_len hL.rp
    have htt := clB_total hf8
    refine ⟨a0, _, q0, a1, _, q1, by rw [hL.c0, hbv], by rw [hL.c1, hpv], by omega, ?_, ?_, ?_, ?_, ?_, ?_⟩
    · rw [hbc, hcell 9 (by omega) (by omega)]; exact h.pb.c9
    · exact ⟨_, by rw [hbc]; exact hc3⟩
    · exact ⟨_, by rw [hbc, hcell 4 (by omega) (by omega)]; exact h.pb.c4⟩
    · exact ⟨_, by rw [hbc, hcell 5 (by omega) (by omega)]; exact h.pb.c5⟩
    · intro o
      rw [frozen_of (hf.blk b hb1 fun q => q) o, hch.fz]; exact h.fz o
    · intro e
      have := hL.nL
      rw [← e, h.tb] at this; cases this
  · rintro e w' ⟨v, rfl, L, wr, n1, a1, c1, ⟨hf, bv, pv, px, cs, hL⟩, h0, h1, hD1, hD2, hD3, hD4, hD5⟩
    rw [List.take_length] at hL
    rw [hL.c0] at h0
    injection h0 with h0
    subst h0
    obtain ⟨a0, q0, hbv⟩ := row_len hL.rb
    obtain ⟨a1', q1, hpv⟩ := row_len hL.rp
    rw [hL.c1, hpv] at h1
    injection h1 with h1
    injection h1 with _ h1 _
    subst h1
    have hfr : Fr wr w' (fun k => k = b) := hD1.fr2 fun a o q => q.1
    have hB := hL.ba.kept hfr (fun k _ _ hk e => by rw [e, h.tb] at hk; cases hk) (fun _ _ q => q)
    rw [hbv] at hB
    refine ⟨a0, _, q0, by rw [hbv], hB, (hf.weak fun k _ q => q.elim).trans hfr fun k _ q => q, fun o => ?_, fun o o3 o4 o5 o9 => ?_, hD2⟩
    · rw [hD1.fz]; exact frozen_of (hf.blk b hb1 fun q => q) o
    · rw [hD1.cell b o (fun q => by omega)]
      exact World.cell?_of_block (w := w1) (a := ⟨b, o, none⟩) (hf.blk b hb1 fun q => q)
set_option maxHeartbeats 1000000 in
/-- Close. -/
theorem pa_close {w : World} {b : Nat} {y : Lay} {p : Pace.PS} {c : Cn} (h : PA w b y p c) (hdr : c.dropped < 8000000000000000000) :
    Calls Tryd.prog 31 #[.pointer (some ⟨b, 0, none⟩)] w fun e w' => ∃ v, e = .returned (.tuple #[v, .int .i64 0]) ∧ PZ w' b y { c with dropped := c.dropped + totalI (clB p.st.fl) } ∧ BAi w' w.heap.size (fun k => y.tag k = .none) (clB p.st.fl) v ∧ Stp w w' y y := by
  obtain ⟨P, hM, hI, hS, hSh⟩ := h
  have hbw : b < w.heap.size := hM.lt b hM.ow
  have hpi := hS.inv.pi
  have hf0 : Fr w (((w.alloc (.cells #[.pointer (some ⟨b, 0, none⟩)] 51)).alloc (.cells #[.slice none 0 0] 63)).alloc (.cells #[.int .i64 9] 34)) (fun _ => False) := (((Fr.refl w _).alloc _).alloc _).alloc _
  have hM0 := hM.kept hf0 (fun _ _ q => q)
  have hs0 : (((w.alloc (.cells #[.pointer (some ⟨b, 0, none⟩)] 51)).alloc (.cells #[.slice none 0 0] 63)).alloc (.cells #[.int .i64 9] 34)).heap.size = w.heap.size + 3 := by simp
  have hz1 : (((w.alloc (.cells #[.pointer (some ⟨b, 0, none⟩)] 51)).alloc (.cells #[.slice none 0 0] 63)).alloc (.cells #[.int .i64 9] 34)).heap[w.heap.size]? = some (.cells #[.pointer (some ⟨b, 0, none⟩)] 51) := by
    rw [Below.heap_alloc _ _ _ (by simp; omega), Below.heap_alloc _ _ _ (by simp)]
    exact heap_alloc_new _ _
  have hz4 : (((w.alloc (.cells #[.pointer (some ⟨b, 0, none⟩)] 51)).alloc (.cells #[.slice none 0 0] 63)).alloc (.cells #[.int .i64 9] 34)).heap[w.heap.size + 1]? = some (.cells #[.slice none 0 0] 63) := by
    rw [Below.heap_alloc _ _ _ (by simp)]
    have := heap_alloc_new (w.alloc (.cells #[.pointer (some ⟨b, 0, none⟩)] 51)) (.cells #[.slice none 0 0] 63)
    simpa using this
  have hz5 : (((w.alloc (.cells #[.pointer (some ⟨b, 0, none⟩)] 51)).alloc (.cells #[.slice none 0 0] 63)).alloc (.cells #[.int .i64 9] 34)).heap[w.heap.size + 2]? = some (.cells #[.int .i64 9] 34) := by
    have := heap_alloc_new ((w.alloc (.cells #[.pointer (some ⟨b, 0, none⟩)] 51)).alloc (.cells #[.slice none 0 0] 63)) (.cells #[.int .i64 9] 34)
    simpa using this
  have HC := close_walk b w (fun v er w' => er = .int .i64 0 ∧ PZ w' b y { c with dropped := c.dropped + totalI (clB p.st.fl) } ∧ BAi w' w.heap.size (fun k => y.tag k = .none) (clB p.st.fl) v ∧ Fr w w' (fun k => k = b))
  generalize (((w.alloc (.cells #[.pointer (some ⟨b, 0, none⟩)] 51)).alloc (.cells #[.slice none 0 0] 63)).alloc (.cells #[.int .i64 9] 34)) = w0 at HC hf0 hM0 hs0 hz1 hz4 hz5
  refine (HC ?_).mono ?_
  · refine do_walk b _ _ _ w0 _ hM0.pb.c12 ?_
    refine (slow_walk b _ _ _ w0 (fun w' => ∃ v, w'.cell? ⟨w.heap.size + 1, 0, none⟩ = some v ∧ w'.cell? ⟨w.heap.size + 2, 0, none⟩ = some (.int .i64 0) ∧ (∃ a n cc, v = .slice a n cc) ∧ BAi w' w.heap.size (fun k => y.tag k = .none) (clB p.st.fl) v ∧ Fr w w' (fun k => k = b) ∧ (∀ o, w'.frozen? ⟨b, o, none⟩ = false) ∧ (∀ o, o ≠ 3 → o ≠ 4 → o ≠ 5 → o ≠ 9 → o ≠ 13 → o ≠ 15 → w'.cell? ⟨b, o, none⟩ = w0.cell? ⟨b, o, none⟩) ∧ w'.cell? ⟨b, 13, none⟩ = some (.int .i32 1) ∧ w'.cell? ⟨b, 15, none⟩ = some (.bool true) ∧ w'.cell? ⟨b, 9, none⟩ = some (.int .i64 ((c.dropped + totalI (clB p.st.fl) : Nat) : Int))) hM0.pb.c12 hM0.pb.c13 (hM0.fz 13) ?_ ?_).mono ?_
    · have hch : Ch w0 ((w0.setCell ⟨b, 13, none⟩ (.int .i32 1)).setCell ⟨b, 15, none⟩ (.bool true)) (fun a o => a = b ∧ (o = 13 ∨ o = 15)) := ((Ch.refl w0 _).setCell ⟨rfl, .inl rfl⟩ _).setCell ⟨rfl, .inr rfl⟩ _
      have h13 : ((w0.setCell ⟨b, 13, none⟩ (.int .i32 1)).setCell ⟨b, 15, none⟩ (.bool true)).cell? ⟨b, 13, none⟩ = some (.int .i32 1) := by
        rw [World.cell?_setCell_other _ _ _ _ (by intro e; injection e with e1 e2; omega)]
        exact World.cell?_setCell_same' _ _ _ (by rw [hM0.pb.c13]; rfl)
      have h15' : (w0.setCell ⟨b, 13, none⟩ (.int .i32 1)).cell? ⟨b, 15, none⟩ = some (.bool false) := by
        rw [World.cell?_setCell_other _ _ _ _ (by intro e; injection e with e1 e2; omega)]
        exact hM0.pb.c15
      have h15 : ((w0.setCell ⟨b, 13, none⟩ (.int .i32 1)).setCell ⟨b, 15, none⟩ (.bool true)).cell? ⟨b, 15, none⟩ = some (.bool true) := World.cell?_setCell_same' _ _ _ (by rw [h15']; rfl)
      have hD := pm_drop hM0 hpi hI.few hch hdr
      have hblk0 : ∀ k, k ≠ b → ((w0.setCell ⟨b, 13, none⟩ (.int .i32 1)).setCell ⟨b, 15, none⟩ (.bool true)).heap[k]? = w0.heap[k]? := fun k hk => hch.blk k fun o q => hk q.1
      have hsz1 : ((w0.setCell ⟨b, 13, none⟩ (.int .i32 1)).setCell ⟨b, 15, none⟩ (.bool true)).heap.size = w.heap.size + 3 := hch.size.trans hs0
      have hfr1 : Fr w ((w0.setCell ⟨b, 13, none⟩ (.int .i32 1)).setCell ⟨b, 15, none⟩ (.bool true)) (fun k => k = b) := (hf0.weak fun k _ q => q.elim).trans (hch.fr2 fun a o q => q.1) fun k _ q => q
      refine (clos_walk b w.heap.size (w.heap.size + 1) (w.heap.size + 2) (.bool false) _ (fun v w' => (∃ a n cc, v = .slice a n cc) ∧ BAi w' (w.heap.size + 3) (fun k => y.tag k = .none) (clB p.st.fl) v ∧ Fr ((w0.setCell ⟨b, 13, none⟩ (.int .i32 1)).setCell ⟨b, 15, none⟩ (.bool true)) w' (fun k => k = b) ∧ (∀ o, w'.frozen? ⟨b, o, none⟩ = false) ∧ (∀ o, o ≠ 3 → o ≠ 4 → o ≠ 5 → o ≠ 9 → o ≠ 13 → o ≠ 15 → w'.cell? ⟨b, o, none⟩ = w0.cell? ⟨b, o, none⟩) ∧ w'.cell? ⟨b, 13, none⟩ = some (.int .i32 1) ∧ w'.cell? ⟨b, 15, none⟩ = some (.bool true) ∧ w'.cell? ⟨b, 9, none⟩ = some (.int .i64 ((c.dropped + totalI (clB p.st.fl) : Nat) : Int))) ?_ h15' (by rw [World.frozen?_setCell]; exact hM0.fz 15) (by omega) ?_ ?_).mono ?_
      · rw [World.cell?_setCell_other _ _ _ _ (by intro e; injection e with e1 e2; omega), heap_cell hz1]; rfl
      · refine hD.mono ?_
        rintro e w' ⟨a, n, cc, rfl, hB, hf, hfz, hc, h9⟩
        rw [hsz1] at hB
        refine ⟨a, n, cc, rfl, ⟨a, n, cc, rfl⟩, hB, hf, fun o => ?_, fun o o1 o2 o3 o4 o5 o6 => ?_, ?_, ?_, h9⟩
        · rw [hfz, hch.fz]; exact hM0.fz o
        · rw [hc o o1 o2 o3 o4]
          exact hch.cell b o fun q => by omega
        · rw [hc 13 (by omega) (by omega) (by omega) (by omega)]; exact h13
        · rw [hc 15 (by omega) (by omega) (by omega) (by omega)]; exact h15
      · rintro v w' ⟨_, _, hf, _⟩
        have e4 : w'.heap[w.heap.size + 1]? = some (.cells #[.slice none 0 0] 63) := by
          rw [hf.blk _ (by omega) (by omega), hblk0 _ (by omega)]; exact hz4
        have e5 : w'.heap[w.heap.size + 2]? = some (.cells #[.int .i64 9] 34) := by
          rw [hf.blk _ (by omega) (by omega), hblk0 _ (by omega)]; exact hz5
        refine ⟨⟨_, by rw [heap_cell e4]; rfl⟩, by simp [World.frozen?, e4], ⟨_, by rw [heap_cell e5]; rfl⟩, by simp [World.frozen?, e5], by omega⟩
      · rintro e w' ⟨rfl, v, w1, ⟨hv, hB, hf, hfz, hc, h13', h15'', h9⟩, rfl⟩
        have e4 : w1.heap[w.heap.size + 1]? = some (.cells #[.slice none 0 0] 63) := by
          rw [hf.blk _ (by omega) (by omega), hblk0 _ (by omega)]; exact hz4
        have e5 : w1.heap[w.heap.size + 2]? = some (.cells #[.int .i64 9] 34) := by
          rw [hf.blk _ (by omega) (by omega), hblk0 _ (by omega)]; exact hz5
        have hC : Ch w1 ((w1.setCell ⟨w.heap.size + 1, 0, none⟩ v).setCell ⟨w.heap.size + 2, 0, none⟩ (.int .i64 0)) (fun a o => a = w.heap.size + 1 ∨ a = w.heap.size + 2) := ((Ch.refl w1 _).setCell (.inl rfl) _).setCell (.inr rfl) _
        have hbc : ∀ o, ((w1.setCell ⟨w.heap.size + 1, 0, none⟩ v).setCell ⟨w.heap.size + 2, 0, none⟩ (.int .i64 0)).cell? ⟨b, o, none⟩ = w1.cell? ⟨b, o, none⟩ := fun o => hC.cell b o fun q => by omega
        refine ⟨rfl, v, ?_, ?_, hv, ?_, ?_, fun o => ?_, fun o o1 o2 o3 o4 o5 o6 => ?_, ?_, ?_, ?_⟩
        · rw [World.cell?_setCell_other _ _ _ _ (by intro e; injection e with e1 e2; omega)]
          exact World.cell?_setCell_same' _ _ _ (by rw [heap_cell e4]; rfl)
        · refine World.cell?_setCell_same' _ _ _ ?_
          rw [World.cell?_setCell_other _ _ _ _ (by intro e; injection e with e1 e2; omega), heap_cell e5]; rfl
        · have hB' := hB.kept (N' := fun k => y.tag k = .none) (hC.fr2 (O := fun a => a = w.heap.size + 1 ∨ a = w.heap.size + 2) fun a o q => q) (fun k _ h3 _ q => by omega) (fun _ _ q => q)
          exact hB'.low (by omega)
        · refine (hfr1.trans hf fun k _ q => q).trans (hC.fr2 (O := fun a => a = w.heap.size + 1 ∨ a = w.heap.size + 2) fun a o q => q) fun k hk q => by omega
        · rw [hC.fz]; exact hfz o
        · rw [hbc]; exact hc o o1 o2 o3 o4 o5 o6
        · rw [hbc]; exact h13'
        · rw [hbc]; exact h15''
        · rw [hbc]; exact h9
    · rintro w' ⟨v, _, _, _, _, _, hfz, hc, h13, _⟩
      exact ⟨by rw [hc 12 (by omega) (by omega) (by omega) (by omega) (by omega) (by omega)]; exact hM0.pb.c12, hfz 12, h13, hfz 13⟩
    · rintro e w' ⟨rfl, w1, ⟨v, h4, h5, ⟨a, n, cc, rfl⟩, hB, hf, hfz, hc, h13, h15, h9⟩, rfl⟩
      have hC : Ch w1 ((w1.drew.setCell ⟨b, 12, none⟩ (.int .u32 1)).setCell ⟨b, 13, none⟩ (.int .i32 0)) (fun a o => a = b ∧ (o = 12 ∨ o = 13)) := ((Ch.refl w1 _).drew.setCell ⟨rfl, .inl rfl⟩ _).setCell ⟨rfl, .inr rfl⟩ _
      have hcc : ∀ o, o ≠ 12 → o ≠ 13 → ((w1.drew.setCell ⟨b, 12, none⟩ (.int .u32 1)).setCell ⟨b, 13, none⟩ (.int .i32 0)).cell? ⟨b, o, none⟩ = w1.cell? ⟨b, o, none⟩ := fun o h1 h2 => hC.cell b o fun q => by omega
      have h12 : w1.drew.cell? ⟨b, 12, none⟩ = some (.int .u32 0) := by
        show w1.cell? ⟨b, 12, none⟩ = _
        rw [hc 12 (by omega) (by omega) (by omega) (by omega) (by omega) (by omega)]; exact hM0.pb.c12
      refine ⟨rfl, a, n, cc, 0, ?_, ?_, rfl, ⟨hM0.tb, hM0.t0, fun k hk => ?_, ?_, ?_, ?_, ?_, ?_, ?_, ?_, ?_⟩, ?_, ?_⟩
      · rw [hC.cell _ _ fun q => by omega]; exact h4
      · rw [hC.cell _ _ fun q => by omega]; exact h5
      · have := hM.lt k hk
        have := hf.size
        rw [hC.size]; omega
      · rw [hcc 6 (by omega) (by omega), hc 6 (by omega) (by omega) (by omega) (by omega) (by omega) (by omega)]; exact hM0.pb.c6
      · rw [hcc 7 (by omega) (by omega), hc 7 (by omega) (by omega) (by omega) (by omega) (by omega) (by omega)]; exact hM0.pb.c7
      · rw [hcc 8 (by omega) (by omega), hc 8 (by omega) (by omega) (by omega) (by omega) (by omega) (by omega)]; exact hM0.pb.c8
      · rw [hcc 9 (by omega) (by omega)]; exact h9
      · rw [hcc 10 (by omega) (by omega), hc 10 (by omega) (by omega) (by omega) (by omega) (by omega) (by omega)]; exact hM0.pb.c10
      · rw [hcc 11 (by omega) (by omega), hc 11 (by omega) (by omega) (by omega) (by omega) (by omega) (by omega)]; exact hM0.pb.c11
      · rw [World.cell?_setCell_other _ _ _ _ (by intro e; injection e with e1 e2; omega)]
        exact World.cell?_setCell_same' _ _ _ (by rw [h12]; rfl)
      · rw [hcc 15 (by omega) (by omega)]; exact h15
      · exact hB.kept (hC.fr2 (O := fun k => k = b) fun a o q => q.1) (fun k _ _ hk e => by rw [e, hM.tb] at hk; cases hk) (fun _ _ q => q)
      · exact hf.trans (hC.fr2 (O := fun k => k = b) fun a o q => q.1) fun k _ q => q
  · rintro e w' ⟨v, er, w1, m, rfl, ⟨rfl, hZ, hB, hf⟩, rfl⟩
    have hd : Fr w1 (w1.drewN m) (fun _ => False) := (Fr.refl _ _).drewN m
    refine ⟨v, rfl, hZ.kept hd (fun _ _ q => q), hB.kept hd (fun _ _ _ _ q => q) (fun _ _ q => q), ⟨?_, fun _ _ q => q⟩⟩
    exact (hf.drewN m).weak fun k _ q => by rw [q]; exact hM.ow
/-- Close, once more. -/
theorem pz_close {w : World} {b : Nat} {y : Lay} {c : Cn} (h : PZ w b y c) :
    Calls Tryd.prog 31 #[.pointer (some ⟨b, 0, none⟩)] w fun e w' => e = .returned (.tuple #[.slice none 0 0, .int .i64 9]) ∧ PZ w' b y c ∧ Fr w w' (fun _ => False) := by
  have hbw : b < w.heap.size := h.lt b h.own
  refine (close_walk b w (fun v er w' => v = .slice none 0 0 ∧ er = .int .i64 9 ∧ Fr w w' (fun _ => False)) ?_).mono ?_
  · have hf0 : Fr w (((w.alloc (.cells #[.pointer (some ⟨b, 0, none⟩)] 51)).alloc (.cells #[.slice none 0 0] 63)).alloc (.cells #[.int .i64 9] 34)) (fun _ => False) := (((Fr.refl w _).alloc _).alloc _).alloc _
    refine (do_done _ 1 (by omega) _ _ (h.kept hf0 (fun _ _ q => q)).c12).mono ?_
    rintro e w' ⟨rfl, rfl⟩
    refine ⟨rfl, none, 0, 0, 9, ?_, ?_, rfl, rfl, hf0⟩
    · have hz4 : (((w.alloc (.cells #[.pointer (some ⟨b, 0, none⟩)] 51)).alloc (.cells #[.slice none 0 0] 63)).alloc (.cells #[.int .i64 9] 34)).heap[w.heap.size + 1]? = some (.cells #[.slice none 0 0] 63) := by
        rw [Below.heap_alloc _ _ _ (by simp)]
        have := heap_alloc_new (w.alloc (.cells #[.pointer (some ⟨b, 0, none⟩)] 51)) (.cells #[.slice none 0 0] 63)
        simpa using this
      rw [heap_cell hz4]; rfl
    · have hz5 : (((w.alloc (.cells #[.pointer (some ⟨b, 0, none⟩)] 51)).alloc (.cells #[.slice none 0 0] 63)).alloc (.cells #[.int .i64 9] 34)).heap[w.heap.size + 2]? = some (.cells #[.int .i64 9] 34) := by
        have := heap_alloc_new ((w.alloc (.cells #[.pointer (some ⟨b, 0, none⟩)] 51)).alloc (.cells #[.slice none 0 0] 63)) (.cells #[.int .i64 9] 34)
        simpa using this
      rw [heap_cell hz5]; rfl
  · rintro e w' ⟨v, er, w1, m, rfl, ⟨rfl, rfl, hf⟩, rfl⟩
    have hd := hf.drewN m
    exact ⟨rfl, h.kept hd (fun _ _ q => q), hd⟩
/-- Counts. -/
theorem pz_counts {w : World} {b : Nat} {y : Lay} {c : Cn} (h : PZ w b y c) :
    Calls Tryd.prog 59 #[.pointer (some ⟨b, 0, none⟩)] w fun e w' => e = .returned (.agg #[.int .i64 (c.taken : Int), .int .i64 (c.refused : Int), .int .i64 (c.sent : Int), .int .i64 (c.dropped : Int), .int .i64 (c.read : Int), .int .i64 (c.bad : Int)]) ∧ PZ w' b y c ∧ Fr w w' (fun _ => False) := by
  refine (counts_walk b _ _ _ _ _ _ w h.c6 h.c7 h.c8 h.c9 h.c10 h.c11).mono ?_
  rintro e w' ⟨rfl, rfl⟩
  have hf : Fr w (w.alloc (.cells #[.int .i64 (c.taken : Int), .int .i64 (c.refused : Int), .int .i64 (c.sent : Int), .int .i64 (c.dropped : Int), .int .i64 (c.read : Int), .int .i64 (c.bad : Int)] 116)) (fun _ => False) := (Fr.refl w _).alloc _
  exact ⟨rfl, h.kept hf (fun _ _ q => q), hf⟩
end Go.Proofs.YtogdekjklbbbiaaDoor

namespace Go.Proofs.YtogdekjklbbbiaaDoor
open Go.ChangeShapes Go.WideShapes Go.ChangeAt Go.RowKit
set_option linter.unusedSimpArgs false
set_option linter.unusedVariables false

theorem GP.kept {w w' : World} {K : Nat → Prop} {p : Option Addr} {n c : Nat} {tg le : Nat → Int} (h : GP w K p n c tg le) (hk : ∀ g o, p = some ⟨g, o, none⟩ → w'.heap[g]? = w.heap[g]?) : GP w' K p n c tg le := by
  rcases h with ⟨g, o, rfl, rfl, hc⟩ | ⟨hown, hK⟩
  · refine .inl ⟨g, o, rfl, rfl, fun j hj => ?_⟩
    have := hk g o rfl
    rw [World.cell?_of_block (w := w) (a := ⟨g, o + j * 2, none⟩) this, World.cell?_of_block (w := w) (a := ⟨g, o + j * 2 + 1, none⟩) this]
    exact hc j hj
  · refine .inr ⟨row_kept0 hown fun g hg => ?_, hK⟩
    rcases hown.2 with ⟨q, _⟩ | ⟨g', cap, cur, q, _⟩
    · rw [q] at hg; cases hg
    · injection q with q1 q2 q3
      have hg' : g' = g := by
        rw [q1] at hg
        simpa [Value.ownBlock] using hg
      subst hg'
      exact hk g' 0 q1
/-- The batches of an answer while they are grown. -/
structure GI (w wr : World) (B : BV) (gl ol : Nat) (K : Nat → Prop) (p : Nat → Option Addr) (c : Nat → Nat) (k : Nat) (H C : Nat → Nat) : Prop where
  fr : Fr w wr (fun x => x = gl ∨ (K x ∧ 0 < k))
  fz : ∀ o, wr.frozen? ⟨gl, o, none⟩ = false
  old : ∀ j, j < B.n → k ≤ j → wr.cell? ⟨gl, ol + j * 3 + 2, none⟩ = some (.slice (p j) (B.ln j) (c j))
  new : ∀ j, j < k → wr.cell? ⟨gl, ol + j * 3 + 2, none⟩ = some (.slice (some ⟨H j, 0, none⟩) (B.ln j + 1) (C j))
  gr : ∀ j, j < k → (w.heap.size ≤ H j ∨ K (H j)) ∧ GR wr (H j) (B.ln j) (B.tg j) (B.le j)
  dj : ∀ i j, i < k → j < k → i ≠ j → H i ≠ H j
theorem GI.drewN {w wr : World} {B : BV} {gl ol : Nat} {K : Nat → Prop} {p : Nat → Option Addr} {c : Nat → Nat} {k : Nat} {H C : Nat → Nat} (h : GI w wr B gl ol K p c k H C) (n : Nat) : GI w (wr.drewN n) B gl ol K p c k H C :=
  ⟨h.fr.drewN n, h.fz, h.old, h.new, fun j hj => ⟨(h.gr j hj).1, (h.gr j hj).2.kept rfl⟩, h.dj⟩
theorem GI.step {w wr w2 : World} {B : BV} {gl ol : Nat} {K : Nat → Prop} {p : Nat → Option Addr} {c : Nat → Nat} {k : Nat} {H C : Nat → Nat} (h : GI w wr B gl ol K p c k H C) (hk : k < B.n) (hK1 : ∀ x, K x → B.n = 1) (hKl : ¬ K gl) (hgl : gl < w.heap.size) (ob : Obj) (hf : Fr (wr.alloc ob) w2 K) {x cap : Nat} (hx : (wr.alloc ob).heap.size ≤ x ∨ K x) (hg : GR w2 x (B.ln k) (B.tg k) (B.le k)) :
    w2.cell? ⟨gl, ol + k * 3 + 2, none⟩ = some (.slice (p k) (B.ln k) (c k)) ∧ w2.frozen? ⟨gl, ol + k * 3 + 2, none⟩ = false ∧ GI w (w2.setCell ⟨gl, ol + k * 3 + 2, none⟩ (.slice (some ⟨x, 0, none⟩) (B.ln k + 1) cap)) B gl ol K p c (k + 1) (fun j => if j = k then x else H j) (fun j => if j = k then cap else C j) := by
  have hsz : wr.heap.size < (wr.alloc ob).heap.size := by simp
  have hglr : gl < wr.heap.size := Nat.lt_of_lt_of_le hgl h.fr.size
  have hglk : w2.heap[gl]? = wr.heap[gl]? := (hf.blk gl (by omega) hKl).trans (Below.heap_alloc _ _ _ hglr)
  have hc2 : ∀ o, w2.cell? ⟨gl, o, none⟩ = wr.cell? ⟨gl, o, none⟩ := fun o => World.cell?_of_block (w := wr) (a := ⟨gl, o, none⟩) hglk
  have hxg : x ≠ gl := fun e => by
    rcases hx with q | q
    · omega
    · rw [e] at q; exact hKl q
  have hch : Ch w2 (w2.setCell ⟨gl, ol + k * 3 + 2, none⟩ (.slice (some ⟨x, 0, none⟩) (B.ln k + 1) cap)) (fun a o => a = gl ∧ o = ol + k * 3 + 2) := (Ch.refl w2 _).setCell ⟨rfl, rfl⟩ _
  have hblk : ∀ g, g ≠ gl → (w2.setCell ⟨gl, ol + k * 3 + 2, none⟩ (.slice (some ⟨x, 0, none⟩) (B.ln k + 1) cap)).heap[g]? = w2.heap[g]? := fun g hg => hch.blk g fun o q => hg q.1
  have hfr2 : Fr w w2 (fun x => x = gl ∨ (K x ∧ 0 < k + 1)) := by
    refine ⟨?_, ?_, ?_, ?_, fun g hgs hn => ?_⟩
    · exact hf.os.trans h.fr.os
    · exact hf.tape.trans h.fr.tape
    · exact hf.output.trans h.fr.output
    · have := hf.size; have := h.fr.size; omega
    · have h1 : ¬ K g := fun q => hn (.inr ⟨q, by omega⟩)
      have hgr : g < wr.heap.size := Nat.lt_of_lt_of_le hgs h.fr.size
      rw [hf.blk g (by omega) h1, Below.heap_alloc _ _ _ hgr, h.fr.blk g hgs fun q => ?_]
      rcases q with q | q
      · exact hn (.inl q)
      · exact h1 q.1
  have hcell := h.old k hk (Nat.le_refl _)
  refine ⟨by rw [hc2]; exact hcell, (frozen_of hglk _).trans (h.fz _), ?_, ?_, ?_, ?_, ?_, ?_⟩
  · refine ⟨hch.os.trans hfr2.os, hch.tape.trans hfr2.tape, hch.output.trans hfr2.output, ?_, fun g hgs hn => ?_⟩
    · rw [hch.size]; exact hfr2.size
    · rw [hblk g fun e => hn (.inl e)]
      exact hfr2.blk g hgs hn
  · intro o
    rw [hch.fz]
    exact (frozen_of hglk o).trans (h.fz o)
  · intro j hj hkj
    rw [hch.cell gl _ (fun q => by omega), hc2]
    exact h.old j hj (by omega)
  · intro j hj
    by_cases e : j = k
    · subst e
      simp only [if_true]
      exact World.cell?_setCell_same' _ _ _ (by rw [hc2, hcell]; rfl)
    · simp only [if_neg e]
      rw [hch.cell gl _ (fun q => by omega), hc2]
      exact h.new j (by omega)
  · intro j hj
    by_cases e : j = k
    · subst e
      simp only [if_true]
      refine ⟨?_, hg.kept (hblk x hxg)⟩
      have := h.fr.size
      rcases hx with q | q
      · exact .inl (by omega)
      · exact .inr q
    · simp only [if_neg e]
      obtain ⟨h1, h2⟩ := h.gr j (by omega)
      have hn1 : B.n ≠ 1 := by omega
      have hHg : H j ≠ gl := fun e => by
        rcases h1 with q | q
        · omega
        · rw [e] at q; exact hKl q
      refine ⟨h1, h2.kept ?_⟩
      rw [hblk _ hHg, hf.blk _ (by have := h2.lt; omega) (fun q => hn1 (hK1 _ q)), Below.heap_alloc _ _ _ h2.lt]
  · intro i j hi hj hij
    have key : ∀ j, j < k → H j ≠ x := fun j hj e => by
      obtain ⟨h1, h2⟩ := h.gr j hj
      have := h2.lt
      rcases hx with q | q
      · omega
      · have := hK1 x q; omega
    by_cases e1 : i = k
    · by_cases e2 : j = k
      · omega
      · simp only [if_pos e1, if_neg e2]
        exact fun e => key j (by omega) e.symm
    · by_cases e2 : j = k
      · simp only [if_neg e1, if_pos e2]
        exact key i (by omega)
      · simp only [if_neg e1, if_neg e2]
        exact h.dj i j (by omega) (by omega) hij
/-- The batches of an answer while they are spoilt. -/
structure GS (w wr : World) (B : BV) (gl ol : Nat) (K : Nat → Prop) (H C : Nat → Nat) : Prop where
  fr : Fr w wr (fun x => x = gl ∨ K x)
  new : ∀ j, j < B.n → wr.cell? ⟨gl, ol + j * 3 + 2, none⟩ = some (.slice (some ⟨H j, 0, none⟩) (B.ln j + 1) (C j))
  gr : ∀ j, j < B.n → (w.heap.size ≤ H j ∨ K (H j)) ∧ H j ≠ gl ∧ (∀ o, wr.frozen? ⟨H j, o, none⟩ = false) ∧ ∀ i, i < B.ln j + 1 → ∃ v, wr.cell? ⟨H j, i * 2, none⟩ = some v
theorem GI.spoil {w wr : World} {B : BV} {gl ol : Nat} {K : Nat → Prop} {p : Nat → Option Addr} {c : Nat → Nat} {H C : Nat → Nat} (h : GI w wr B gl ol K p c B.n H C) (hKl : ¬ K gl) (hgl : gl < w.heap.size) : GS w wr B gl ol K H C := by
  refine ⟨⟨h.fr.os, h.fr.tape, h.fr.output, h.fr.size, fun k hk hn => h.fr.blk k hk fun q => hn ?_⟩, h.new, fun j hj => ?_⟩
  · rcases q with q | q
    · exact .inl q
    · exact .inr q.1
  · obtain ⟨h1, h2⟩ := h.gr j hj
    refine ⟨h1, fun e => ?_, h2.fz, fun i hi => ?_⟩
    · rcases h1 with q | q
      · omega
      · rw [e] at q; exact hKl q
    · by_cases e : i < B.ln j
      · exact ⟨_, (h2.old i e).1⟩
      · have : i = B.ln j := by omega
        subst this
        exact ⟨_, h2.new.1⟩
theorem GS.set {w wr : World} {B : BV} {gl ol : Nat} {K : Nat → Prop} {H C : Nat → Nat} (h : GS w wr B gl ol K H C) {j : Nat} (hj : j < B.n) (o : Nat) (v : Value) : GS w (wr.setCell ⟨H j, o, none⟩ v) B gl ol K H C := by
  obtain ⟨h1, h2, h3, h4⟩ := h.gr j hj
  have hch : Ch wr (wr.setCell ⟨H j, o, none⟩ v) (fun a o' => a = H j ∧ o' = o) := (Ch.refl wr _).setCell ⟨rfl, rfl⟩ _
  refine ⟨⟨hch.os.trans h.fr.os, hch.tape.trans h.fr.tape, hch.output.trans h.fr.output, by rw [hch.size]; exact h.fr.size, fun k hk hn => ?_⟩, fun i hi => ?_, fun i hi => ?_⟩
  · rw [hch.blk k fun o' q => ?_]
    · exact h.fr.blk k hk hn
    · rcases h1 with q1 | q1
      · omega
      · exact hn (.inr (by rw [q.1]; exact q1))
  · rw [hch.cell gl _ fun q => h2 q.1.symm]; exact h.new i hi
  · obtain ⟨k1, k2, k3, k4⟩ := h.gr i hi
    refine ⟨k1, k2, fun o' => by rw [hch.fz]; exact k3 o', fun x hx => ?_⟩
    obtain ⟨u, hu⟩ := k4 x hx
    have := hch.dom ⟨H i, x * 2, none⟩
    rw [hu] at this
    cases hz : (wr.setCell ⟨H j, o, none⟩ v).cell? ⟨H i, x * 2, none⟩ with
    | none => rw [hz] at this; cases this
    | some z => exact ⟨z, rfl⟩

set_option maxHeartbeats 4000000 in
/-- grown, of the same batches. -/
theorem grown_walk (B : BV) (aa ab : Option Addr) (ca cb gl ol : Nat) (pa pb : Nat → Option Addr) (xa xb : Nat → Nat) (K : Nat → Prop) (w : World) (hn : B.n < 1000) (hl : ∀ i, i < B.n → B.ln i < 1000) (hA : BS w B aa pa xa) (hB : BS w B ab pb xb)
    (haa : 0 < B.n → aa = some ⟨gl, ol, none⟩ ∧ gl < w.heap.size ∧ ∀ o, w.frozen? ⟨gl, o, none⟩ = false) (hG : ∀ i, i < B.n → GP w K (pa i) (B.ln i) (xa i) (B.tg i) (B.le i)) (hK1 : ∀ x, K x → B.n = 1) (hKl : ¬ K gl)
    (hpl : ∀ i, i < B.n → ∀ g o, pa i = some ⟨g, o, none⟩ → g < w.heap.size ∧ g ≠ gl) (hab : ∀ g o, ab = some ⟨g, o, none⟩ → 0 < B.n → g < w.heap.size ∧ g ≠ gl ∧ ¬ K g) (hpb : ∀ i, i < B.n → ∀ g o, pb i = some ⟨g, o, none⟩ → 0 < B.ln i → g < w.heap.size ∧ g ≠ gl ∧ ¬ K g) :
    Calls Tryd.prog 30 #[.slice aa B.n ca, .slice ab B.n cb] w fun e w' => e = .returned (.bool true) ∧ Fr w w' (fun x => (x = gl ∧ 0 < B.n) ∨ K x) := by
  have HAl := hide (alike_walk B aa ab ca cb pa pb xa xb w hn hl hA hB)
  have HA := hide hA; have HB := hide hB; have HL := hide hl; have HAA := hide haa; have HG0 := hide hG; have HK1 := hide hK1; have HPL := hide hpl; have HAB := hide hab; have HPB := hide hpb; have HKl := hide hKl
  clear hA hB hl haa hG hK1 hpl hab hpb hKl
  go_enter Tryd.func30, Tryd.ntmps30
  go_wp2_with fail
  refine (unhide HAl).mono ?_
  rintro e w1 ⟨rfl, hch⟩
  by_cases hn0 : B.n = 0
  · have hfr : Fr w w1 (fun x => (x = gl ∧ 0 < B.n) ∨ K x) := ⟨hch.os, hch.tape, hch.output, by rw [hch.size]; exact Nat.le_refl _, fun k _ _ => hch.blk k fun _ q => q⟩
    have HFR := hide hfr
    clear hch hfr
    rw [hn0]
    go_wp2_with fail
    go_loopg [6] 0 (fun gk i wr => i = .int .i64 0 ∧ Fr w wr (fun x => (x = gl ∧ 0 < B.n) ∨ K x))
    case atStart => exact ⟨rfl, unhide HFR⟩
    case round =>
      obtain ⟨hu, hf1⟩ := hrel
      rw [hu]
      clear hu HFR
      have HFR := hide hf1
      clear hf1
      go_wp2_with fail
      go_loopg [7] 0 (fun gk i wr => i = .int .i64 0 ∧ Fr w wr (fun x => (x = gl ∧ 0 < B.n) ∨ K x))
      case atStart => exact ⟨rfl, unhide HFR⟩
      case round =>
        obtain ⟨hu, hf1⟩ := hrel
        rw [hu]
        clear hu HFR
        have HFR := hide hf1
        clear hf1
        go_wp2_with fail
        go_loopg [10] 0 (fun gk i wr => i = .int .i64 0 ∧ Fr w wr (fun x => (x = gl ∧ 0 < B.n) ∨ K x))
        case atStart => exact ⟨rfl, unhide HFR⟩
        case round =>
          obtain ⟨hu, hf1⟩ := hrel
          rw [hu]
          clear hu HFR
          have HFR := hide hf1
          clear hf1
          go_wp2_with fail
          go_ret
          exact ⟨rfl, unhide HFR⟩
  · obtain ⟨hgl, hglt, hfz⟩ := unhide HAA (by omega)
    have hgi0 : GI w w1 B gl ol K pa xa 0 (fun _ => 0) (fun _ => 0) := by
      refine ⟨⟨hch.os, hch.tape, hch.output, by rw [hch.size]; exact Nat.le_refl _, fun k _ _ => hch.blk k fun _ q => q⟩, fun o => by rw [hch.fz]; exact hfz o, fun j hj _ => ?_, fun j hj => by omega, fun j hj => by omega, fun i j hi => by omega⟩
      obtain ⟨g, o, e, _, _, h2⟩ := (unhide HA).row j hj
      rw [hgl] at e
      injection e with e
      injection e with e1 e2
      subst e1 e2
      rw [hch.cell _ _ (fun q => q)]; exact h2
    have HGI0 := hide hgi0
    clear hgi0 hch hfz
    subst hgl
    go_wp2_with fail
    go_loopg [6] B.n (fun gk i wr => ∃ (k : Nat) (H C : Nat → Nat), i = .int .i64 (k : Int) ∧ gk = B.n - k ∧ k ≤ B.n ∧ GI w wr B gl ol K pa xa k H C)
    case atStart => exact ⟨0, _, _, rfl, rfl, Nat.zero_le _, unhide HGI0⟩
    case round =>
      obtain ⟨k, H, C, hu, hgk, hkn, hgi⟩ := hrel
      rw [hu]
      clear hu HGI0
      have HG := hide hgk; have HGI := hide hgi
      clear hgk
      by_cases hk : k < B.n
      · have a2 := hgi.old k hk (Nat.le_refl _)
        have hki : (k : Int) < (B.n : Int) := by omega
        have hk0 : (0 : Int) ≤ (k : Int) := by omega
        have hlk := unhide HL k hk
        have HGP : Hid (GP (wr.alloc (.cells #[.int .i64 (-7), .int .i64 (-7)] 102)) K (pa k) (B.ln k) (xa k) (B.tg k) (B.le k)) := by
          refine (unhide HG0 k hk).kept fun g o e => ?_
          obtain ⟨q1, q2⟩ := unhide HPL k hk g o e
          rw [Below.heap_alloc _ _ _ (Nat.lt_of_lt_of_le q1 hgi.fr.size), hgi.fr.blk g q1 fun q => ?_]
          rcases q with q | q
          · exact q2 q
          · have := unhide HK1 g q.1; omega
        have HN0 : Hid ((wr.alloc (.cells #[.int .i64 (-7), .int .i64 (-7)] 102)).cell? ((⟨wr.heap.size, 0, none⟩ : Addr).add 0) = some (.int .i64 (-7))) := by
          show (wr.alloc _).cell? _ = _
          rw [add_lit, heap_cell (heap_alloc_new _ _)]; rfl
        have HN1 : Hid ((wr.alloc (.cells #[.int .i64 (-7), .int .i64 (-7)] 102)).cell? ((⟨wr.heap.size, 0, none⟩ : Addr).add 1) = some (.int .i64 (-7))) := by
          show (wr.alloc _).cell? _ = _
          rw [add_lit, heap_cell (heap_alloc_new _ _)]; rfl
        clear hgi
        go_wp2_with (first | (at_builtin; refine wpList_append_g rfl _ _ rfl K (pa k) (B.ln k) (xa k) (B.tg k) (B.le k) rfl hlk (unhide HGP) ⟨wr.heap.size, 0, none⟩ rfl (unhide HN0) (unhide HN1) ?_; intro x cap w2 hfr hx hgr; obtain ⟨s1, s2, s3⟩ := (unhide HGI).step hk (unhide HK1) (unhide HKl) hglt _ hfr (cap := cap) hx hgr; have HS3 := hide s3; clear hfr hx hgr s3 a2))
        go_roundg (B.n - (k + 1))
        case measure => rw [unhide HG]; omega
        case rel => exact ⟨k + 1, _, _, by go_num, rfl, by omega, unhide HS3⟩
      · have hki : ¬ (k : Int) < (B.n : Int) := by omega
        have hkn' : k = B.n := by omega
        subst hkn'
        clear hgi HG hki
        go_wp2_with fail
        go_loopg [7] B.n (fun gk i wr => ∃ k : Nat, i = .int .i64 (k : Int) ∧ gk = B.n - k ∧ k ≤ B.n ∧ GI w wr B gl ol K pa xa B.n H C)
        case atStart => exact ⟨0, rfl, rfl, Nat.zero_le _, unhide HGI⟩
        case round =>
          obtain ⟨k, hu, hgk, hkn, hgi⟩ := hrel
          rw [hu]
          clear hu HGI
          have HG := hide hgk; have HGI := hide hgi
          clear hgk
          by_cases hk : k < B.n
          · obtain ⟨gb, ob, hb, _, _, b2⟩ := (unhide HB).row k hk
            obtain ⟨q1, q2, q3⟩ := unhide HAB gb ob hb (by omega)
            have hbk : wr.heap[gb]? = w.heap[gb]? := hgi.fr.blk gb q1 fun q => by
              rcases q with q | q
              · exact q2 q
              · exact q3 q.1
            rw [← World.cell?_of_block (w := w) (w' := wr) (a := ⟨gb, ob + k * 3 + 2, none⟩) hbk] at b2
            have a2 := hgi.new k hk
            have hgr := (hgi.gr k hk).2
            have a7 := hgr.new.1
            have hki : (k : Int) < (B.n : Int) := by omega
            have hk0 : (0 : Int) ≤ (k : Int) := by omega
            have hlk := unhide HL k hk
            have hl0 : (0 : Int) ≤ (B.ln k : Int) := by omega
            have hl1 : (B.ln k : Int) < (B.ln k : Int) + 1 := by omega
            have hl2 : ((B.ln k : Int) + 1 != (B.ln k : Int) + 1) = false := by simp
            have h77 : ((-7 : Int) != -7) = false := by decide
            subst hb
            clear hgi hgr hbk q1 q2 q3
            go_wp2_with fail
            go_loopg [9] (B.ln k) (fun gk i wr => ∃ j : Nat, i = .int .i64 (j : Int) ∧ gk = B.ln k - j ∧ j ≤ B.ln k ∧ GI w wr B gl ol K pa xa B.n H C)
            case atStart => exact ⟨0, rfl, rfl, Nat.zero_le _, unhide HGI⟩
            case round =>
              obtain ⟨j, hu, hgj, hjn, hgi⟩ := hrel
              rw [hu]
              clear hu
              have HGJ := hide hgj; have HGI2 := hide hgi
              clear hgj a2 a7 b2
              by_cases hj : j < B.ln k
              · obtain ⟨gb', ob', hb', _, _, b2⟩ := (unhide HB).row k hk
                injection hb' with hb'
                injection hb' with ea eo _
                subst ea eo
                obtain ⟨q1, q2, q3⟩ := unhide HAB gb ob rfl (by omega)
                have hbk : wr.heap[gb]? = w.heap[gb]? := hgi.fr.blk gb q1 fun q => by
                  rcases q with q | q
                  · exact q2 q
                  · exact q3 q.1
                rw [← World.cell?_of_block (w := w) (w' := wr) (a := ⟨gb, ob + k * 3 + 2, none⟩) hbk] at b2
                obtain ⟨g2, o2, hp2, d0, d1⟩ := (unhide HB).pk k j hk hj
                obtain ⟨r1, r2, r3⟩ := unhide HPB k hk g2 o2 hp2 (by omega)
                have hbk2 : wr.heap[g2]? = w.heap[g2]? := hgi.fr.blk g2 r1 fun q => by
                  rcases q with q | q
                  · exact r2 q
                  · exact r3 q.1
                rw [← World.cell?_of_block (w := w) (w' := wr) (a := ⟨g2, o2 + j * 2, none⟩) hbk2] at d0
                rw [← World.cell?_of_block (w := w) (w' := wr) (a := ⟨g2, o2 + j * 2 + 1, none⟩) hbk2] at d1
                have a2 := hgi.new k hk
                obtain ⟨c0, c1⟩ := (hgi.gr k hk).2.old j hj
                rw [hp2] at b2
                have hji : (j : Int) < (B.ln k : Int) := by omega
                have hj0 : (0 : Int) ≤ (j : Int) := by omega
                have hji1 : (j : Int) < (B.ln k : Int) + 1 := by omega
                have hy0 : (B.tg k j != B.tg k j) = false := by simp
                have hy1 : (B.le k j != B.le k j) = false := by simp
                clear hgi hp2 hbk hbk2 q1 q2 q3 r1 r2 r3
                go_wp2_with fail
                go_quiet (fail)
                go_wp2_with fail
                go_roundg (B.ln k - (j + 1))
                case measure => rw [unhide HGJ]; omega
                case rel => exact ⟨j + 1, by go_num, rfl, by omega, (unhide HGI2).drewN _⟩
              · have hji : ¬ (j : Int) < (B.ln k : Int) := by omega
                clear hgi
                go_wp2_with fail
                go_roundg (B.n - (k + 1))
                case measure => rw [unhide HG]; omega
                case rel => exact ⟨k + 1, by go_num, rfl, by omega, unhide HGI2⟩
          · have hki : ¬ (k : Int) < (B.n : Int) := by omega
            have HGS := hide (hgi.spoil (unhide HKl) hglt)
            clear hgi HGI
            go_wp2_with fail
            go_loopg [10] B.n (fun gk i wr => ∃ k : Nat, i = .int .i64 (k : Int) ∧ gk = B.n - k ∧ k ≤ B.n ∧ GS w wr B gl ol K H C)
            case atStart => exact ⟨0, rfl, rfl, Nat.zero_le _, unhide HGS⟩
            case round =>
              obtain ⟨k, hu, hgk, hkn, hgi⟩ := hrel
              rw [hu]
              clear hu HGS HG hki
              have HG := hide hgk; have HGS := hide hgi
              clear hgk
              by_cases hk : k < B.n
              · have hki : (k : Int) < (B.n : Int) := by omega
                have hk0 : (0 : Int) ≤ (k : Int) := by omega
                have hlk := unhide HL k hk
                clear hgi
                go_wp2_with fail
                go_loopg [11] (B.ln k + 1) (fun gk i wr => ∃ j : Nat, i = .int .i64 (j : Int) ∧ gk = B.ln k + 1 - j ∧ j ≤ B.ln k + 1 ∧ GS w wr B gl ol K H C)
                case atStart => exact ⟨0, rfl, rfl, Nat.zero_le _, unhide HGS⟩
                case round =>
                  obtain ⟨j, hu, hgj, hjn, hgs⟩ := hrel
                  rw [hu]
                  clear hu
                  have HGJ := hide hgj; have HGS2 := hide hgs
                  clear hgj
                  have a2 := hgs.new k hk
                  by_cases hj : j < B.ln k + 1
                  · obtain ⟨_, _, z1, z2⟩ := hgs.gr k hk
                    obtain ⟨u, z3⟩ := z2 j hj
                    have z4 := z1 (j * 2)
                    have hji : (j : Int) < (B.ln k : Int) + 1 := by omega
                    have hj0 : (0 : Int) ≤ (j : Int) := by omega
                    clear hgs z1 z2
                    go_wp2_with fail
                    go_roundg (B.ln k + 1 - (j + 1))
                    case measure => rw [unhide HGJ]; omega
                    case rel => exact ⟨j + 1, by go_num, rfl, by omega, (unhide HGS2).set hk _ _⟩
                  · have hji : ¬ (j : Int) < (B.ln k : Int) + 1 := by omega
                    clear hgs
                    go_wp2_with fail
                    go_roundg (B.n - (k + 1))
                    case measure => rw [unhide HG]; omega
                    case rel => exact ⟨k + 1, by go_num, rfl, by omega, unhide HGS2⟩
              · have hki : ¬ (k : Int) < (B.n : Int) := by omega
                clear hgi
                go_wp2_with fail
                go_ret
                refine ⟨rfl, ?_⟩
                have hf := (unhide HGS).fr
                exact ⟨hf.os, hf.tape, hf.output, hf.size, fun x hx hnx => hf.blk x hx fun q => hnx (by
                  rcases q with q | q
                  · exact .inl ⟨q, by omega⟩
                  · exact .inr q)⟩
end Go.Proofs.YtogdekjklbbbiaaDoor

namespace Go.Proofs.YtogdekjklbbbiaaDoor
open Go.ChangeShapes Go.WideShapes Go.ChangeAt Go.RowKit
set_option linter.unusedSimpArgs false
set_option linter.unusedVariables false

/-! ### Two pacers side by side -/
theorem PA.olt {w : World} {b : Nat} {y : Lay} {p : Pace.PS} {c : Cn} (h : PA w b y p c) : ∀ k, y.own k → k < w.heap.size := by
  obtain ⟨P, hM, _⟩ := h; exact hM.lt
theorem PA.inv {w : World} {b : Nat} {y : Lay} {p : Pace.PS} {c : Cn} (h : PA w b y p c) : p.Inv := by
  obtain ⟨P, hM, hI, _⟩ := h; exact hI
theorem Lay.tag_of {y : Lay} {k : Nat} (h : ¬ y.own k) : y.tag k = .none := Classical.byContradiction fun q => h q
theorem Stp.own {w w' : World} {y y' : Lay} (h : Stp w w' y y') {k : Nat} (hk : k < w.heap.size) (ho : y'.own k) : y.own k := Classical.byContradiction fun hn => ho (h.ext k hk (Lay.tag_of hn))
structure D2 (w wr : World) (a b : Nat) (ya yb : Lay) (pa pb : Pace.PS) (ca cb : Cn) : Prop where
  ha : PA wr a ya pa ca
  hb : PA wr b yb pb cb
  fr : Fr w wr (fun _ => False)
  oa : ∀ k, ya.own k → w.heap.size ≤ k
  ob : ∀ k, yb.own k → w.heap.size ≤ k
  dj : ∀ k, ya.own k → ¬ yb.own k
theorem D2.swap {w wr : World} {a b : Nat} {ya yb : Lay} {pa pb : Pace.PS} {ca cb : Cn} (h : D2 w wr a b ya yb pa pb ca cb) : D2 w wr b a yb ya pb pa cb ca := ⟨h.hb, h.ha, h.fr, h.ob, h.oa, fun k h1 h2 => h.dj k h2 h1⟩
theorem D2.left {w wr w' : World} {a b : Nat} {ya yb ya' : Lay} {pa pb pa' : Pace.PS} {ca cb ca' : Cn} (h : D2 w wr a b ya yb pa pb ca cb) (hP : PA w' a ya' pa' ca') (hs : Stp wr w' ya ya') : D2 w w' a b ya' yb pa' pb ca' cb := by
  refine ⟨hP, h.hb.kept hs.fr fun k hk q => h.dj k q hk, h.fr.trans hs.fr fun k hk q => ?_, fun k hk => ?_, h.ob, fun k h1 h2 => ?_⟩
  · have := h.oa k q; omega
  · rcases Nat.lt_or_ge k wr.heap.size with q | q
    · exact h.oa k (hs.own q hk)
    · exact Nat.le_trans h.fr.size q
  · exact h.dj k (hs.own (h.hb.olt k h2) h1) h2
theorem D2.right {w wr w' : World} {a b : Nat} {ya yb yb' : Lay} {pa pb pb' : Pace.PS} {ca cb cb' : Cn} (h : D2 w wr a b ya yb pa pb ca cb) (hP : PA w' b yb' pb' cb') (hs : Stp wr w' yb yb') : D2 w w' a b ya yb' pa pb' ca cb' := (h.swap.left hP hs).swap
theorem D2.touch {w wr w' : World} {a b : Nat} {ya yb : Lay} {pa pb : Pace.PS} {ca cb : Cn} (h : D2 w wr a b ya yb pa pb ca cb) {O : Nat → Prop} (hf : Fr wr w' O) (hO : ∀ k, O k → ¬ ya.own k ∧ ¬ yb.own k ∧ w.heap.size ≤ k) : D2 w w' a b ya yb pa pb ca cb := by
  refine ⟨h.ha.kept hf fun k hk q => (hO k q).1 hk, h.hb.kept hf fun k hk q => (hO k q).2.1 hk, h.fr.trans hf fun k hk q => ?_, h.oa, h.ob, h.dj⟩
  have := (hO k q).2.2
  omega
theorem BAi.imp {w : World} {n0 : Nat} {N N' : Nat → Prop} {bs : List BtI} {v : Value} (h : BAi w n0 N bs v) (hN : ∀ k, n0 ≤ k → k < w.heap.size → N k → N' k) : BAi w n0 N' bs v := by
  obtain ⟨⟨cs, hr, ha⟩, hn⟩ := h
  refine ⟨⟨cs, hr, ha.mono fun c q hq => ?_⟩, fun g hg => hN g (hr.lt g hg).1 (hr.lt g hg).2 (hn g hg)⟩
  obtain ⟨g, o, e, h1, h2, h3, h4, h5⟩ := hq
  exact ⟨g, o, e, h1, h2, hN g h1 h2 h3, h4, h5⟩

/-! ### The batches of an answer, by their numbers -/
def btD : BtI := (0, 0, [])
def bvOf (bs : List BtI) : BV := ⟨bs.length, fun i => ((bs.getD i btD).1 : Int), fun i => (bs.getD i btD).2.1, fun i => (bs.getD i btD).2.2.length, fun i j => ((bs.getD i btD).2.2.getD j (0, 0)).1, fun i j => (((bs.getD i btD).2.2.getD j (0, 0)).2 : Int)⟩
theorem flat3 {cs : List (List Value)} (h : ∀ c ∈ cs, c.length = 3) {i : Nat} {c : List Value} (hi : cs[i]? = some c) {r : Nat} (hr : r < 3) : cs.flatten[i * 3 + r]? = c[r]? := by
  induction cs generalizing i with
  | nil => simp at hi
  | cons d cs ih =>
    have hd := h d (List.mem_cons_self ..)
    cases i with
    | zero =>
      simp at hi
      subst hi
      rw [List.flatten_cons, List.getElem?_append_left (by omega)]
      simp
    | succ i =>
      rw [List.flatten_cons, List.getElem?_append_right (by omega), hd]
      have : (i + 1) * 3 + r - 3 = i * 3 + r := by omega
      rw [this]
      exact ih (fun c hc => h c (List.mem_cons_of_mem _ hc)) (by simpa using hi)
theorem all2_get {α β : Type} {R : α → β → Prop} {l : List α} {m : List β} (h : Pace.All2 R l m) {i : Nat} {b : β} (hb : m[i]? = some b) : ∃ a, l[i]? = some a ∧ R a b := by
  induction h generalizing i with
  | nil => simp at hb
  | cons q _ ih =>
    cases i with
    | zero => simp at hb; subst hb; exact ⟨_, rfl, q⟩
    | succ i => exact ih (by simpa using hb)
theorem all2_left {α β : Type} {R : α → β → Prop} {P : α → Prop} {l : List α} {m : List β} (h : Pace.All2 R l m) (hP : ∀ a b, R a b → P a) : ∀ a ∈ l, P a := by
  induction h with
  | nil => intro a ha; cases ha
  | cons q _ ih =>
    intro a ha
    rcases List.mem_cons.1 ha with rfl | e
    · exact hP _ _ q
    · exact ih a e
theorem pkC_at {l : List (Int × Nat)} {j : Nat} (h : j < l.length) : (pkC l)[j * 2]? = some (.int .i64 (l.getD j (0, 0)).1) ∧ (pkC l)[j * 2 + 1]? = some (.int .i64 ((l.getD j (0, 0)).2 : Int)) := by
  induction l generalizing j with
  | nil => simp at h
  | cons p l ih =>
    have e : pkC (p :: l) = .int .i64 p.1 :: .int .i64 (p.2 : Int) :: pkC l := rfl
    rw [e]
    cases j with
    | zero => simp
    | succ j =>
      have := ih (j := j) (by simpa using h)
      have e1 : (j + 1) * 2 = j * 2 + 1 + 1 := by omega
      rw [e1]
      simpa using this
theorem pkC_pcl (l : List (Int × Nat)) : pkC l = pcl l.length (fun j => (l.getD j (0, 0)).1) (fun j => ((l.getD j (0, 0)).2 : Int)) := by
  have key : ∀ n, n ≤ l.length → pkC (l.take n) = pcl n (fun j => (l.getD j (0, 0)).1) (fun j => ((l.getD j (0, 0)).2 : Int)) := by
    intro n
    induction n with
    | zero => intro _; rfl
    | succ n ih =>
      intro hn
      have e : l.take (n + 1) = l.take n ++ [l.getD n (0, 0)] := by
        rw [List.take_add_one, List.getD, List.getElem?_eq_getElem (by omega)]; rfl
      rw [e, pcl_succ, ← ih (by omega)]
      simp [pkC]
  have := key l.length (Nat.le_refl _)
  rwa [List.take_length] at this
theorem bs_of {w : World} {n0 : Nat} {N : Nat → Prop} {bs : List BtI} {v : Value} (h : BAi w n0 N bs v) : ∃ a c p xc gl, v = .slice a bs.length c ∧ BS w (bvOf bs) a p xc ∧ (0 < bs.length → a = some ⟨gl, 0, none⟩ ∧ n0 ≤ gl ∧ gl < w.heap.size ∧ N gl ∧ ∀ o, w.frozen? ⟨gl, o, none⟩ = false) ∧
    ∀ i, i < bs.length → ∃ g o, p i = some ⟨g, o, none⟩ ∧ n0 ≤ g ∧ g < w.heap.size ∧ N g ∧ g ≠ gl ∧ xc i = (bvOf bs).ln i ∧ ∀ j, j < (bvOf bs).ln i → w.cell? ⟨g, o + j * 2, none⟩ = some (.int .i64 ((bvOf bs).tg i j)) ∧ w.cell? ⟨g, o + j * 2 + 1, none⟩ = some (.int .i64 ((bvOf bs).le i j)) := by
  obtain ⟨⟨cs, hr, ha⟩, hn⟩ := h
  obtain ⟨a, c, hv⟩ := row_len hr
  have h3 : ∀ c ∈ cs, c.length = 3 := all2_left ha fun c q hq => by obtain ⟨g, o, rfl, _⟩ := hq; rfl
  have hbi : ∀ i, i < bs.length → bs[i]? = some (bs.getD i btD) := fun i hi => by rw [List.getD, List.getElem?_eq_getElem hi]; rfl
  rcases Nat.eq_zero_or_pos bs.length with h0 | h0
  · refine ⟨a, c, fun _ => none, fun _ => 0, 0, hv, ⟨fun i hi => ?_, fun i j hi => ?_⟩, fun q => ?_, fun i hi => ?_⟩
    · have : i < bs.length := hi; omega
    · have : i < bs.length := hi; omega
    · omega
    · omega
  · rcases hr.2 with ⟨_, q⟩ | ⟨gl, cap, cur, hv2, hb1, hb2, hb3, hb4, hb5, hb6⟩
    · omega
    · have hob : v.ownBlock = some gl := by rw [hv2]; rfl
      have hcell : ∀ i r u c, cs[i]? = some c → r < 3 → c[r]? = some u → w.cell? ⟨gl, i * 3 + r, none⟩ = some u := fun i r u c hc hr3 hu => row_get0 hr hob (by rw [flat3 h3 hc hr3]; exact hu)
      have hB : ∀ i, i < bs.length → ∃ g o, cs[i]? = some [.int .i64 ((bs.getD i btD).1 : Int), .int .i64 (bs.getD i btD).2.1, .slice (some ⟨g, o, none⟩) (bs.getD i btD).2.2.length (bs.getD i btD).2.2.length] ∧ n0 ≤ g ∧ g < w.heap.size ∧ N g ∧ g ≠ gl ∧ pkAt w g o (bs.getD i btD).2.2 := fun i hi => by
        obtain ⟨c, hc, g, o, rfl, h1, h2, h3, h4, h5⟩ := all2_get ha (hbi i hi)
        exact ⟨g, o, hc, h1, h2, h3, fun e => h5 (by rw [hob, e]), h4⟩
      have hpx : ∀ i, i < bs.length → ∃ g o, avO ((cs.getD i []).getD 2 (.slice none 0 0)) = some ⟨g, o, none⟩ ∧ cvO ((cs.getD i []).getD 2 (.slice none 0 0)) = (bs.getD i btD).2.2.length ∧ cs[i]? = some [.int .i64 ((bs.getD i btD).1 : Int), .int .i64 (bs.getD i btD).2.1, .slice (some ⟨g, o, none⟩) (bs.getD i btD).2.2.length (bs.getD i btD).2.2.length] ∧ n0 ≤ g ∧ g < w.heap.size ∧ N g ∧ g ≠ gl ∧ pkAt w g o (bs.getD i btD).2.2 := fun i hi => by
        obtain ⟨g, o, h1, h2⟩ := hB i hi
        refine ⟨g, o, ?_, ?_, h1, h2⟩
        · simp [List.getD, h1, avO]
        · simp [List.getD, h1, cvO]
      have hpk : ∀ (g o : Nat) (i : Nat), pkAt w g o (bs.getD i btD).2.2 → ∀ j, j < (bs.getD i btD).2.2.length → w.cell? ⟨g, o + j * 2, none⟩ = some (.int .i64 ((bs.getD i btD).2.2.getD j (0, 0)).1) ∧ w.cell? ⟨g, o + j * 2 + 1, none⟩ = some (.int .i64 (((bs.getD i btD).2.2.getD j (0, 0)).2 : Int)) := fun g o i h j hj => by
        obtain ⟨q1, q2⟩ := pkC_at hj
        exact ⟨h _ _ q1, by have := h _ _ q2; rw [← Nat.add_assoc] at this; exact this⟩
      refine ⟨a, c, fun i => avO ((cs.getD i []).getD 2 (.slice none 0 0)), fun i => cvO ((cs.getD i []).getD 2 (.slice none 0 0)), gl, hv, ⟨fun i hi => ?_, fun i j hi hj => ?_⟩, fun _ => ⟨?_, hb1, (Array.getElem?_eq_some_iff.1 hb2).1, hn gl hob, fun o => by simp [World.frozen?, hb2]⟩, fun i hi => ?_⟩
      · obtain ⟨g, o, e1, e2, hc, _⟩ := hpx i hi
        refine ⟨gl, 0, ?_, ?_, ?_, ?_⟩
        · rw [hv] at hv2; injection hv2
        · rw [Nat.zero_add]; exact hcell i 0 _ _ hc (by omega) rfl
        · rw [Nat.zero_add]; exact hcell i 1 _ _ hc (by omega) rfl
        · show w.cell? _ = some (.slice (avO _) _ (cvO _))
          rw [e1, e2, Nat.zero_add]; exact hcell i 2 _ _ hc (by omega) rfl
      · obtain ⟨g, o, e1, e2, hc, h1, h2, h3, h4, h5⟩ := hpx i hi
        exact ⟨g, o, e1, hpk g o i h5 j hj⟩
      · rw [hv] at hv2; injection hv2
      · obtain ⟨g, o, e1, e2, hc, h1, h2, h3, h4, h5⟩ := hpx i hi
        exact ⟨g, o, e1, h1, h2, h3, h4, e2, hpk g o i h5⟩
/-- grown, of two answers that tell the same. -/
theorem grown_two {w : World} {n0 n1 : Nat} {N M : Nat → Prop} {bs : List BtI} {v u : Value} (hv : BAi w n0 N bs v) (hu : BAi w n1 M bs u) (hn : bs.length ≤ 64) (hl : ∀ q ∈ bs, q.2.2.length ≤ 8) (hd : ∀ k, N k → ¬ M k) :
    Calls Tryd.prog 30 #[v, u] w fun e w' => e = .returned (.bool true) ∧ Fr w w' (fun k => n0 ≤ k ∧ N k) := by
  obtain ⟨a, c, p, xc, gl, rfl, hS, hg, hp⟩ := bs_of hv
  obtain ⟨a2, c2, p2, xc2, gl2, rfl, hS2, hg2, hp2⟩ := bs_of hu
  have hle : ∀ i, i < bs.length → (bvOf bs).ln i ≤ 8 := fun i hi => by
    refine hl _ ?_
    rw [List.getD, List.getElem?_eq_getElem hi]
    exact List.getElem_mem hi
  refine (grown_walk (bvOf bs) a a2 c c2 gl 0 p p2 xc xc2 (fun _ => False) w (by show bs.length < 1000; omega) (fun i hi => by have := hle i hi; omega) hS hS2 (fun h0 => ?_) (fun i hi => ?_) (fun _ q => q.elim) (fun q => q) (fun i hi g o e => ?_) (fun g o e h0 => ?_) (fun i hi g o e _ => ?_)).mono ?_
  · obtain ⟨h1, h2, h3, h4, h5⟩ := hg h0
    exact ⟨h1, h3, h5⟩
  · obtain ⟨g, o, h1, h2, h3, h4, h5, h6, h7⟩ := hp i hi
    exact .inl ⟨g, o, h1, h6, h7⟩
  · obtain ⟨g', o', h1, h2, h3, h4, h5, h6, h7⟩ := hp i hi
    rw [h1] at e
    injection e with e
    injection e with e1 e2
    subst e1
    exact ⟨h3, h5⟩
  · obtain ⟨h1, h2, h3, h4, h5⟩ := hg2 h0
    obtain ⟨k1, k2, k3, k4, k5⟩ := hg h0
    rw [h1] at e
    injection e with e
    injection e with e1 e2
    subst e1
    exact ⟨h3, fun e => hd gl k4 (by rw [← e]; exact h4), fun q => q⟩
  · obtain ⟨g', o', h1, h2, h3, h4, h5, h6, h7⟩ := hp2 i hi
    have hpos : 0 < bs.length := Nat.lt_of_le_of_lt (Nat.zero_le _) hi
    obtain ⟨k1, k2, k3, k4, k5⟩ := hg hpos
    rw [h1] at e
    injection e with e
    injection e with e1 e2
    subst e1
    exact ⟨h3, fun e => hd gl k4 (by rw [← e]; exact h4), fun q => q⟩
  · rintro e w' ⟨rfl, hf⟩
    refine ⟨rfl, ⟨hf.os, hf.tape, hf.output, hf.size, fun k hk hnk => hf.blk k hk fun q => hnk ?_⟩⟩
    rcases q with ⟨q, h0⟩ | q
    · obtain ⟨k1, k2, k3, k4, k5⟩ := hg h0
      rw [q]; exact ⟨k2, k4⟩
    · exact q.elim
/-- grown, of two lists of packets that tell the same. -/
theorem grown_one {w : World} {n0 n1 : Nat} {N M : Nat → Prop} {l : List (Int × Nat)} {v u : Value} (hv : PL w n0 N l v) (hu : PL w n1 M l u) (hl : l.length ≤ 8) (hd : ∀ k, v.ownBlock = some k → u.ownBlock ≠ some k) :
    Calls Tryd.prog 30 #[.slice (some ⟨w.heap.size, 0, none⟩) 1 1, .slice (some ⟨w.heap.size + 1, 0, none⟩) 1 1] ((w.alloc (.cells #[.int .i64 0, .int .i64 0, v] 67)).alloc (.cells #[.int .i64 0, .int .i64 0, u] 67)) fun e w' => e = .returned (.bool true) ∧ Fr w w' (fun k => n0 ≤ k ∧ N k) := by
  obtain ⟨a, c, hva⟩ := row_len hv.row
  obtain ⟨a2, c2, hua⟩ := row_len hu.row
  have hz1 : ((w.alloc (.cells #[.int .i64 0, .int .i64 0, v] 67)).alloc (.cells #[.int .i64 0, .int .i64 0, u] 67)).heap[w.heap.size]? = some (.cells #[.int .i64 0, .int .i64 0, v] 67) := by
    rw [Below.heap_alloc _ _ _ (by simp)]
    exact heap_alloc_new _ _
  have hz2 : ((w.alloc (.cells #[.int .i64 0, .int .i64 0, v] 67)).alloc (.cells #[.int .i64 0, .int .i64 0, u] 67)).heap[w.heap.size + 1]? = some (.cells #[.int .i64 0, .int .i64 0, u] 67) := by
    have := heap_alloc_new (w.alloc (.cells #[.int .i64 0, .int .i64 0, v] 67)) (.cells #[.int .i64 0, .int .i64 0, u] 67)
    simpa using this
  have hf0 : Fr w ((w.alloc (.cells #[.int .i64 0, .int .i64 0, v] 67)).alloc (.cells #[.int .i64 0, .int .i64 0, u] 67)) (fun _ => False) := ((Fr.refl w _).alloc _).alloc _
  have hs0 : ((w.alloc (.cells #[.int .i64 0, .int .i64 0, v] 67)).alloc (.cells #[.int .i64 0, .int .i64 0, u] 67)).heap.size = w.heap.size + 2 := by simp
  generalize ((w.alloc (.cells #[.int .i64 0, .int .i64 0, v] 67)).alloc (.cells #[.int .i64 0, .int .i64 0, u] 67)) = w0 at hz1 hz2 hf0 hs0
  have hrv : w0.ownsRow n0 102 2 v l.length (pkC l) := row_kept0 hv.row fun g hg => hf0.blk g (hv.row.lt g hg).2 fun q => q
  have hru : w0.ownsRow n1 102 2 u l.length (pkC l) := row_kept0 hu.row fun g hg => hf0.blk g (hu.row.lt g hg).2 fun q => q
  have hpk : ∀ {nn : Nat} {x : Value} {ax : Option Addr} {cx : Nat}, w0.ownsRow nn 102 2 x l.length (pkC l) → x = .slice ax l.length cx → ∀ j, j < l.length → ∃ g, ax = some ⟨g, 0, none⟩ ∧ x.ownBlock = some g ∧ w0.cell? ⟨g, 0 + j * 2, none⟩ = some (.int .i64 (l.getD j (0, 0)).1) ∧ w0.cell? ⟨g, 0 + j * 2 + 1, none⟩ = some (.int .i64 ((l.getD j (0, 0)).2 : Int)) := fun {nn x ax cx} hr hx j hj => by
    obtain ⟨g, cap, hx2, _, _, hog, _⟩ := row_shape hr (by omega)
    obtain ⟨q1, q2⟩ := pkC_at hj
    refine ⟨g, ?_, hog, ?_, ?_⟩
    · rw [hx] at hx2; injection hx2
    · rw [Nat.zero_add]; exact row_get0 hr hog q1
    · rw [Nat.zero_add]; exact row_get0 hr hog q2
  have hkv : ∀ k, v.ownBlock = some k → k < w.heap.size := fun k hk => (hv.row.lt k hk).2
  have hku : ∀ k, u.ownBlock = some k → k < w.heap.size := fun k hk => (hu.row.lt k hk).2
  have hsh : ∀ {nn : Nat} {x : Value} {ax : Option Addr} {cx : Nat}, w0.ownsRow nn 102 2 x l.length (pkC l) → x = .slice ax l.length cx → ∀ g o, ax = some ⟨g, o, none⟩ → x.ownBlock = some g := fun {nn x ax cx} hr hx g o e => by
    rw [hx, e]; rfl
  refine (grown_walk ⟨1, fun _ => 0, fun _ => 0, fun _ => l.length, fun _ j => (l.getD j (0, 0)).1, fun _ j => ((l.getD j (0, 0)).2 : Int)⟩ (some ⟨w.heap.size, 0, none⟩) (some ⟨w.heap.size + 1, 0, none⟩) 1 1 w.heap.size 0 (fun _ => a) (fun _ => a2) (fun _ => c) (fun _ => c2) (fun k => v.ownBlock = some k) w0 (by show 1 < 1000; omega) (fun i hi => by show l.length < 1000; omega) ⟨fun i hi => ?_, fun i j hi hj => ?_⟩ ⟨fun i hi => ?_, fun i j hi hj => ?_⟩ (fun _ => ⟨rfl, by omega, fun o => by simp [World.frozen?, hz1]⟩) (fun i hi => .inr ⟨?_, ?_⟩) (fun _ _ => rfl) (fun q => by have := hkv _ q; omega) (fun i hi g o e => ?_) (fun g o e h0 => ?_) (fun i hi g o e h0 => ?_)).mono ?_
  · have hi0 : i = 0 := by have : i < 1 := hi; omega
    subst hi0
    refine ⟨w.heap.size, 0, rfl, ?_, ?_, ?_⟩
    · rw [heap_cell hz1]; rfl
    · rw [heap_cell hz1]; rfl
    · rw [heap_cell hz1, ← hva]; rfl
  · obtain ⟨g, h1, _, h2, h3⟩ := hpk hrv hva j hj
    exact ⟨g, 0, h1, h2, h3⟩
  · have hi0 : i = 0 := by have : i < 1 := hi; omega
    subst hi0
    refine ⟨w.heap.size + 1, 0, rfl, ?_, ?_, ?_⟩
    · rw [heap_cell hz2]; rfl
    · rw [heap_cell hz2]; rfl
    · rw [heap_cell hz2, ← hua]; rfl
  · obtain ⟨g, h1, _, h2, h3⟩ := hpk hru hua j hj
    exact ⟨g, 0, h1, h2, h3⟩
  · show w0.ownsRow 0 102 2 (.slice a l.length c) l.length (pcl l.length _ _)
    rw [← hva, ← pkC_pcl]
    refine ⟨hrv.1, ?_⟩
    rcases hrv.2 with q | ⟨g, cap, cur, h1, h2, h3⟩
    · exact .inl q
    · exact .inr ⟨g, cap, cur, h1, Nat.zero_le _, h3⟩
  · intro k hk
    rw [hva]; exact hk
  · have := hkv g (hsh hrv hva g o e)
    exact ⟨by omega, by omega⟩
  · injection e with e
    injection e with e1 e2
    subst e1
    exact ⟨by omega, by omega, fun q => by have := hkv _ q; omega⟩
  · have h1 := hsh hru hua g o e
    have := hku g h1
    exact ⟨by omega, by omega, fun q => hd g q h1⟩
  · rintro e w' ⟨rfl, hf⟩
    refine ⟨rfl, hf0.os ▸ hf.os, hf0.tape ▸ hf.tape, hf0.output ▸ hf.output, Nat.le_trans hf0.size hf.size, fun k hk hnk => ?_⟩
    rw [hf.blk k (by omega) fun q => ?_]
    · exact hf0.blk k hk fun q => q
    · rcases q with ⟨q, _⟩ | q
      · omega
      · exact hnk ⟨(hv.row.lt k q).1, hv.nn k q⟩
end Go.Proofs.YtogdekjklbbbiaaDoor
