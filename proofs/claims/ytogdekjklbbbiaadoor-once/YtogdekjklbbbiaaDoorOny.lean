import Derived.Test.YtogdekjklbbbiaaDoorOnw
import Derived.Test.YtogdekjklbbbiaaDoorSpx
import Derived.Test.YtogdekjklbbbiaaDoorOge
import Derived.Test.YtogdekjklbbbiaaDoorLb
import Derived.Test.YtogdekjklbbbiaaDoorPac
set_option maxRecDepth 100000
namespace Go.Proofs.YtogdekjklbbbiaaDoor
open Go.ChangeShapes Go.WideShapes Go.ChangeAt Go.RowKit
set_option linter.unusedSimpArgs false
set_option linter.unusedVariables false

def tagV (l : List Int) : List Value := l.map fun t => .int .i64 t
/-- The lanes in memory. -/
structure LS (w wr : World) (al : Option Addr) (m cl gt sz : Nat) (l : List Pace.Ln) (V : Nat → Value) (F : Nat → Prop) : Prop where
  len : m = l.length
  al0 : m = 0 → al = none ∧ cl = 0
  al1 : 0 < m → al = some ⟨gt, 0, none⟩ ∧ m ≤ cl ∧ cl ≤ maxLen ∧ sz = cl * 4
  sh : 0 < m → ∃ cur, wr.heap[gt]? = some (.cells cur 70) ∧ cur.size = sz
  c : ∀ i z, l[i]? = some z → wr.cell? ⟨gt, i * 4, none⟩ = some (V i) ∧ wr.cell? ⟨gt, i * 4 + 1, none⟩ = some (.int .i64 (z.told : Int)) ∧ wr.cell? ⟨gt, i * 4 + 2, none⟩ = some (.int .i64 (z.last : Int)) ∧ wr.cell? ⟨gt, i * 4 + 3, none⟩ = some (.bool z.gone) ∧ wr.ownsRow 0 3 1 (V i) z.tags.length (tagV z.tags)
  gF : 0 < m → ¬ F gt ∧ w.heap.size ≤ gt
  vF : ∀ i, i < m → ∀ g, (V i).ownBlock = some g → ¬ F g ∧ w.heap.size ≤ g ∧ g ≠ gt
  vd : ∀ i j, i < m → j < m → i ≠ j → ∀ g, (V i).ownBlock = some g → (V j).ownBlock ≠ some g
theorem LS.lt {w wr : World} {al : Option Addr} {m cl gt sz : Nat} {l : List Pace.Ln} {V : Nat → Value} {F : Nat → Prop} (h : LS w wr al m cl gt sz l V F) (h0 : 0 < m) : gt < wr.heap.size := by
  obtain ⟨cur, h1, _⟩ := h.sh h0
  exact (Array.getElem?_eq_some_iff.1 h1).1
theorem LS.fz {w wr : World} {al : Option Addr} {m cl gt sz : Nat} {l : List Pace.Ln} {V : Nat → Value} {F : Nat → Prop} (h : LS w wr al m cl gt sz l V F) (h0 : 0 < m) (o : Nat) : wr.frozen? ⟨gt, o, none⟩ = false := by
  obtain ⟨cur, h1, _⟩ := h.sh h0
  simp [World.frozen?, h1]
theorem LS.get {w wr : World} {al : Option Addr} {m cl gt sz : Nat} {l : List Pace.Ln} {V : Nat → Value} {F : Nat → Prop} (h : LS w wr al m cl gt sz l V F) {i : Nat} (hi : i < m) : ∃ z, l[i]? = some z := ⟨_, List.getElem?_eq_getElem (by rw [← h.len]; exact hi)⟩
theorem LS.vlt {w wr : World} {al : Option Addr} {m cl gt sz : Nat} {l : List Pace.Ln} {V : Nat → Value} {F : Nat → Prop} (h : LS w wr al m cl gt sz l V F) {i g : Nat} (hi : i < m) (hg : (V i).ownBlock = some g) : g < wr.heap.size := by
  obtain ⟨z, hz⟩ := h.get hi
  exact ((h.c i z hz).2.2.2.2.lt g hg).2
theorem LS.kept {w wr w' : World} {al : Option Addr} {m cl gt sz : Nat} {l : List Pace.Ln} {V : Nat → Value} {F F' : Nat → Prop} (h : LS w wr al m cl gt sz l V F) (hf : Fr wr w' F) (hF : ∀ k, k < wr.heap.size → F' k → F k) : LS w w' al m cl gt sz l V F' := by
  have hlm : ∀ {i z}, l[i]? = some z → i < m := fun {i z} hz => by rw [h.len]; exact (List.getElem?_eq_some_iff.1 hz).1
  refine ⟨h.len, h.al0, h.al1, fun h0 => ?_, fun i z hz => ?_, fun h0 => ⟨fun q => (h.gF h0).1 (hF _ (h.lt h0) q), (h.gF h0).2⟩, fun i hi g hg => ⟨fun q => (h.vF i hi g hg).1 (hF g (h.vlt hi hg) q), (h.vF i hi g hg).2⟩, h.vd⟩
  · rw [hf.blk gt (h.lt h0) (h.gF h0).1]; exact h.sh h0
  · have hi := hlm hz
    have h0 : 0 < m := by omega
    have hk : w'.heap[gt]? = wr.heap[gt]? := hf.blk gt (h.lt h0) (h.gF h0).1
    have hc : ∀ o, w'.cell? ⟨gt, o, none⟩ = wr.cell? ⟨gt, o, none⟩ := fun o => World.cell?_of_block (w := wr) (a := ⟨gt, o, none⟩) hk
    obtain ⟨c0, c1, c2, c3, c4⟩ := h.c i z hz
    exact ⟨(hc _).trans c0, (hc _).trans c1, (hc _).trans c2, (hc _).trans c3, row_kept0 c4 fun g hg => hf.blk g (h.vlt hi hg) (h.vF i hi g hg).1⟩
/-- A lane's numbers are written. -/
theorem LS.lane {w wr w' : World} {al : Option Addr} {m cl gt sz : Nat} {l : List Pace.Ln} {V : Nat → Value} {F : Nat → Prop} (h : LS w wr al m cl gt sz l V F) {i : Nat} {z z' : Pace.Ln} (hz : l[i]? = some z) (ht : z'.tags = z.tags) (hch : Ch wr w' (fun a o => a = gt ∧ (o = i * 4 + 1 ∨ o = i * 4 + 2 ∨ o = i * 4 + 3))) (hsh : Sh wr w' gt)
    (h1 : w'.cell? ⟨gt, i * 4 + 1, none⟩ = some (.int .i64 (z'.told : Int))) (h2 : w'.cell? ⟨gt, i * 4 + 2, none⟩ = some (.int .i64 (z'.last : Int))) (h3 : w'.cell? ⟨gt, i * 4 + 3, none⟩ = some (.bool z'.gone)) : LS w w' al m cl gt sz (l.set i z') V F := by
  have him : i < m := by rw [h.len]; exact (List.getElem?_eq_some_iff.1 hz).1
  have hblk : ∀ k, k ≠ gt → w'.heap[k]? = wr.heap[k]? := fun k hk => hch.blk k fun o q => hk q.1
  refine ⟨by rw [List.length_set]; exact h.len, h.al0, h.al1, fun h0 => ?_, fun j y hy => ?_, h.gF, h.vF, h.vd⟩
  · obtain ⟨cur, k1, k2⟩ := h.sh h0
    obtain ⟨c', k3, k4⟩ := hsh cur 70 k1
    exact ⟨c', k3, by rw [k4, k2]⟩
  · have hjm : j < m := by
      have := (List.getElem?_eq_some_iff.1 hy).1
      rw [List.length_set, ← h.len] at this; exact this
    have hrow : ∀ y0, l[j]? = some y0 → w'.ownsRow 0 3 1 (V j) y0.tags.length (tagV y0.tags) := fun y0 hy0 => row_kept0 (h.c j y0 hy0).2.2.2.2 fun g hg => hblk g (h.vF j hjm g hg).2.2
    rw [List.getElem?_set] at hy
    by_cases e : i = j
    · subst e
      rw [if_pos rfl, if_pos (by rw [← h.len]; exact him)] at hy
      injection hy with hy
      subst hy
      refine ⟨?_, h1, h2, h3, by rw [ht]; exact hrow z hz⟩
      rw [hch.cell gt _ fun q => by omega]; exact (h.c i z hz).1
    · rw [if_neg e] at hy
      obtain ⟨c0, c1, c2, c3, _⟩ := h.c j y hy
      exact ⟨by rw [hch.cell gt _ fun q => by omega]; exact c0, by rw [hch.cell gt _ fun q => by omega]; exact c1, by rw [hch.cell gt _ fun q => by omega]; exact c2, by rw [hch.cell gt _ fun q => by omega]; exact c3, hrow y hy⟩
/-- The lanes' row. -/
theorem LS.row {w wr : World} {al : Option Addr} {m cl gt sz : Nat} {l : List Pace.Ln} {V : Nat → Value} {F : Nat → Prop} (h : LS w wr al m cl gt sz l V F) : ∃ xs, wr.ownsRow 0 70 4 (.slice al m cl) m xs ∧ ∀ j, j < m * 4 → xs[j]? = wr.cell? ⟨gt, j, none⟩ := by
  rcases Nat.eq_zero_or_pos m with h0 | h0
  · obtain ⟨rfl, rfl⟩ := h.al0 h0
    subst h0
    exact ⟨[], World.ownsRow_nil _ _ _ _, fun j hj => by omega⟩
  · obtain ⟨rfl, h1, h2, h3⟩ := h.al1 h0
    obtain ⟨cur, k1, k2⟩ := h.sh h0
    have hle : m * 4 ≤ cur.size := by rw [k2, h3]; exact Nat.mul_le_mul_right 4 h1
    refine ⟨cur.toList.take (m * 4), ⟨by rw [List.length_take, Array.length_toList]; omega, .inr ⟨gt, cl, cur, rfl, Nat.zero_le _, k1, h1, h2, by rw [k2, h3], rfl⟩⟩, fun j hj => ?_⟩
    rw [heap_cell k1, List.getElem?_take, if_pos hj]
    simp
/-- A lane is put behind. -/
theorem LS.app {w wr w'' : World} {al al' : Option Addr} {m cl cl' gt sz : Nat} {l : List Pace.Ln} {V : Nat → Value} {F : Nat → Prop} (h : LS w wr al m cl gt sz l V F) (hFl : ∀ k, F k → k < wr.heap.size) (hw : w.heap.size ≤ wr.heap.size) {xs : List Value} (hxs : ∀ j, j < m * 4 → xs[j]? = wr.cell? ⟨gt, j, none⟩) (hxl : xs.length = m * 4) (ob : Obj)
    (hown : w''.ownsRow 0 70 4 (.slice al' (m + 1) cl') (m + 1) (xs ++ [.slice none 0 0, .int .i64 0, .int .i64 0, .bool false]))
    (hg : ((Value.slice al' (m + 1) cl').ownBlock = (Value.slice al m cl).ownBlock ∧ (wr.alloc ob).grownBy w'' (Value.slice al m cl).ownBlock) ∨ ((Value.slice al' (m + 1) cl').ownBlock = some (wr.alloc ob).heap.size ∧ (wr.alloc ob).grownBy w'' none)) :
    ∃ gt' sz' V', LS w w'' al' (m + 1) cl' gt' sz' (l ++ [Pace.lnD]) V' F ∧ Fr wr w'' (fun k => k = gt ∧ 0 < m) := by
  have hsz : wr.heap.size < (wr.alloc ob).heap.size := by simp
  have hob : (Value.slice al m cl).ownBlock = if 0 < m then some gt else none := by
    rcases Nat.eq_zero_or_pos m with h0 | h0
    · obtain ⟨rfl, rfl⟩ := h.al0 h0; rw [if_neg (by omega)]; rfl
    · obtain ⟨rfl, _⟩ := h.al1 h0; rw [if_pos h0]; rfl
  have hblk : ∀ k, k < wr.heap.size → (k = gt → ¬ 0 < m) → w''.heap[k]? = wr.heap[k]? := fun k hk hn => by
    have hn' : (Value.slice al m cl).ownBlock ≠ some k := fun e => by
      rw [hob] at e
      by_cases h0 : 0 < m
      · rw [if_pos h0] at e; injection e with e; exact hn e.symm h0
      · rw [if_neg h0] at e; cases e
    rw [app_blk hg (by omega) (fun e => absurd e hn'), Below.heap_alloc _ _ _ hk]
  obtain ⟨gt', cap, hv, _, hlt', hob', hmc, hcm⟩ := row_shape hown (by omega)
  injection hv with hv1 hv2 hv3
  subst hv1 hv3
  have hgt' : (gt' = gt ∧ 0 < m) ∨ wr.heap.size < gt' := by
    rcases hg with ⟨q, _⟩ | ⟨q, _⟩
    · rw [hob', hob] at q
      by_cases h0 : 0 < m
      · rw [if_pos h0] at q; injection q with q; exact .inl ⟨q, h0⟩
      · rw [if_neg h0] at q; cases q
    · rw [hob'] at q; injection q with q; exact .inr (by omega)
  have hcell : ∀ j u, (xs ++ [Value.slice none 0 0, .int .i64 0, .int .i64 0, .bool false])[j]? = some u → w''.cell? ⟨gt', j, none⟩ = some u := fun j u hu => row_get0' hown hob' hu
  have hsh : ∃ cur, w''.heap[gt']? = some (.cells cur 70) ∧ cur.size = cl' * 4 := by
    rcases hown.2 with ⟨_, q⟩ | ⟨g, cp, cur, q, _, k1, _, _, k2, _⟩
    · omega
    · injection q with q1 q2 q3
      injection q1 with q1
      injection q1 with q1
      subst q1 q3
      exact ⟨cur, k1, k2⟩
  have hold : ∀ i, i < m → ∀ c, c < 4 → (xs ++ [Value.slice none 0 0, .int .i64 0, .int .i64 0, .bool false])[i * 4 + c]? = wr.cell? ⟨gt, i * 4 + c, none⟩ := fun i hi c hc => by
    rw [List.getElem?_append_left (by omega)]; exact hxs _ (by omega)
  have hnew : ∀ c, c < 4 → (xs ++ [Value.slice none 0 0, .int .i64 0, .int .i64 0, .bool false])[m * 4 + c]? = [Value.slice none 0 0, .int .i64 0, .int .i64 0, .bool false][c]? := fun c hc => by
    rw [List.getElem?_append_right (by omega), hxl]
    congr 1
    omega
  have hlen := h.len
  have hkne : ∀ k, k < wr.heap.size → k ≠ gt → k ≠ gt' := fun k hk hn e => by
    rcases hgt' with ⟨q, h0⟩ | q
    · exact hn (e.trans q)
    · omega
  refine ⟨gt', cl' * 4, fun i => if i = m then .slice none 0 0 else V i, ⟨by rw [List.length_append]; simp; exact hlen, fun h0 => by omega, fun _ => ⟨rfl, hmc, hcm, rfl⟩, fun _ => hsh, fun i z hz => ?_, fun _ => ?_, fun i hi g hgi => ?_, fun i j hi hj hij g hgi => ?_⟩, ?_⟩
  · by_cases e : i = m
    · subst e
      rw [hlen, List.getElem?_append_right (Nat.le_refl _)] at hz
      simp at hz
      subst hz
      simp only [if_true]
      exact ⟨hcell _ _ ((hnew 0 (by omega)).trans rfl), hcell _ _ ((hnew 1 (by omega)).trans rfl), hcell _ _ ((hnew 2 (by omega)).trans rfl), hcell _ _ ((hnew 3 (by omega)).trans rfl), World.ownsRow_nil _ _ _ _⟩
    · have him : i < m := by
        have := (List.getElem?_eq_some_iff.1 hz).1
        rw [List.length_append] at this
        simp at this
        omega
      rw [List.getElem?_append_left (by omega)] at hz
      simp only [if_neg e]
      obtain ⟨c0, c1, c2, c3, c4⟩ := h.c i z hz
      refine ⟨hcell _ _ ((hold i him 0 (by omega)).trans c0), hcell _ _ ((hold i him 1 (by omega)).trans c1), hcell _ _ ((hold i him 2 (by omega)).trans c2), hcell _ _ ((hold i him 3 (by omega)).trans c3), row_kept0 c4 fun g hgi => hblk g (h.vlt him hgi) fun q _ => (h.vF i him g hgi).2.2 q⟩
  · rcases hgt' with ⟨rfl, h0⟩ | q
    · exact h.gF h0
    · exact ⟨fun q2 => by have := hFl _ q2; omega, by omega⟩
  · by_cases e : i = m
    · simp only [if_pos e] at hgi; cases hgi
    · simp only [if_neg e] at hgi
      obtain ⟨q1, q2, q3⟩ := h.vF i (by omega) g hgi
      exact ⟨q1, q2, hkne g (h.vlt (by omega) hgi) q3⟩
  · by_cases e : i = m
    · simp only [if_pos e] at hgi; cases hgi
    · simp only [if_neg e] at hgi
      by_cases e2 : j = m
      · simp only [if_pos e2]; intro q; cases q
      · simp only [if_neg e2]
        exact h.vd i j (by omega) (by omega) hij g hgi
  · have hs := app_size hg
    exact ⟨hs.1, hs.2.1, hs.2.2.1, by omega, fun k hk hn => hblk k hk fun e h0 => hn ⟨e, h0⟩⟩
where
  row_get0' {w : World} {n0 e sz n g : Nat} {v : Value} {xs : List Value} (h : w.ownsRow n0 e sz v n xs) (hg : v.ownBlock = some g) {j : Nat} {u : Value} (hu : xs[j]? = some u) : w.cell? ⟨g, j, none⟩ = some u := by
    have := h.cells hg j u hu
    rw [add_lit, Nat.zero_add] at this
    exact this
end Go.Proofs.YtogdekjklbbbiaaDoor

namespace Go.Proofs.YtogdekjklbbbiaaDoor
open Go.ChangeShapes Go.WideShapes Go.ChangeAt Go.RowKit
set_option linter.unusedSimpArgs false
set_option linter.unusedVariables false

/-- A tag is put behind. -/
theorem LS.tag {w wr w6 : World} {al : Option Addr} {m cl gt sz : Nat} {l : List Pace.Ln} {V : Nat → Value} {F : Nat → Prop} (h : LS w wr al m cl gt sz l V F) (hFl : ∀ k, F k → k < wr.heap.size) (hw : w.heap.size ≤ wr.heap.size) {a : Nat} {z : Pace.Ln} (hz : l[a]? = some z) (k : Int) (ob : Obj) {g c : Nat}
    (hown : w6.ownsRow 0 3 1 (.slice (some ⟨g, 0, none⟩) (z.tags.length + 1) c) (z.tags.length + 1) (tagV z.tags ++ [.int .i64 k]))
    (hg : ((Value.slice (some ⟨g, 0, none⟩) (z.tags.length + 1) c).ownBlock = (V a).ownBlock ∧ (wr.alloc ob).drew.grownBy w6 (V a).ownBlock) ∨ ((Value.slice (some ⟨g, 0, none⟩) (z.tags.length + 1) c).ownBlock = some (wr.alloc ob).drew.heap.size ∧ (wr.alloc ob).drew.grownBy w6 none)) :
    w6.cell? ⟨gt, a * 4, none⟩ = some (V a) ∧ w6.frozen? ⟨gt, a * 4, none⟩ = false ∧ LS w (w6.setCell ⟨gt, a * 4, none⟩ (.slice (some ⟨g, 0, none⟩) (z.tags.length + 1) c)) al m cl gt sz (l.set a { z with tags := z.tags ++ [k] }) (upd V a (.slice (some ⟨g, 0, none⟩) (z.tags.length + 1) c)) F ∧ Fr wr (w6.setCell ⟨gt, a * 4, none⟩ (.slice (some ⟨g, 0, none⟩) (z.tags.length + 1) c)) (fun x => x = gt ∨ (V a).ownBlock = some x) := by
  have ham : a < m := by rw [h.len]; exact (List.getElem?_eq_some_iff.1 hz).1
  have h0 : 0 < m := by omega
  have hgl := h.lt h0
  have hsz : wr.heap.size < (wr.alloc ob).drew.heap.size := by show wr.heap.size < (wr.alloc ob).heap.size; simp
  have hblk : ∀ x, x < wr.heap.size → (V a).ownBlock ≠ some x → w6.heap[x]? = wr.heap[x]? := fun x hx hn => by
    rw [app_blk hg (by omega) (fun e => absurd e hn)]
    exact Below.heap_alloc wr ob x hx
  have hVg : (V a).ownBlock ≠ some gt := fun e => (h.vF a ham gt e).2.2 rfl
  have hgk := hblk gt hgl hVg
  have hc6 : ∀ o, w6.cell? ⟨gt, o, none⟩ = wr.cell? ⟨gt, o, none⟩ := fun o => World.cell?_of_block (w := wr) (a := ⟨gt, o, none⟩) hgk
  obtain ⟨c0, c1, c2, c3, c4⟩ := h.c a z hz
  have hgn : (V a).ownBlock = some g ∨ wr.heap.size < g := by
    rcases hg with ⟨q, _⟩ | ⟨q, _⟩
    · exact .inl (by rw [← q]; rfl)
    · injection q with q
      exact .inr (by have q' : g = (wr.alloc ob).drew.heap.size := q; omega)
  have hggt : g ≠ gt := fun e => by
    rcases hgn with q | q
    · exact hVg (by rw [q, e])
    · omega
  have hch : Ch w6 (w6.setCell ⟨gt, a * 4, none⟩ (.slice (some ⟨g, 0, none⟩) (z.tags.length + 1) c)) (fun x o => x = gt ∧ o = a * 4) := (Ch.refl w6 _).setCell ⟨rfl, rfl⟩ _
  have hset : ∀ x, x ≠ gt → (w6.setCell ⟨gt, a * 4, none⟩ (.slice (some ⟨g, 0, none⟩) (z.tags.length + 1) c)).heap[x]? = w6.heap[x]? := fun x hx => set_blk _ _ _ _ hx
  refine ⟨(hc6 _).trans c0, (frozen_of hgk _).trans (h.fz h0 _), ⟨by rw [List.length_set]; exact h.len, h.al0, h.al1, fun _ => ?_, fun i y hy => ?_, h.gF, fun i hi x hx => ?_, fun i j hi hj hij x hx => ?_⟩, ?_⟩
  · obtain ⟨cur, k1, k2⟩ := h.sh h0
    exact ⟨_, heap_setCell_same w6 gt (a * 4) cur 70 _ (hgk.trans k1), by simpa using k2⟩
  · have him : i < m := by
      have := (List.getElem?_eq_some_iff.1 hy).1
      rw [List.length_set, ← h.len] at this; exact this
    rw [List.getElem?_set] at hy
    by_cases e : a = i
    · subst e
      rw [if_pos rfl, if_pos (by rw [← h.len]; exact ham)] at hy
      injection hy with hy
      subst hy
      rw [upd_same]
      refine ⟨World.cell?_setCell_same' _ _ _ (by rw [hc6, c0]; rfl), ?_, ?_, ?_, ?_⟩
      · rw [hch.cell gt _ fun q => by omega, hc6]; exact c1
      · rw [hch.cell gt _ fun q => by omega, hc6]; exact c2
      · rw [hch.cell gt _ fun q => by omega, hc6]; exact c3
      · have e1 : (z.tags ++ [k]).length = z.tags.length + 1 := by simp
        have e2 : tagV (z.tags ++ [k]) = tagV z.tags ++ [.int .i64 k] := by simp [tagV]
        show (w6.setCell _ _).ownsRow 0 3 1 _ (z.tags ++ [k]).length (tagV (z.tags ++ [k]))
        rw [e1, e2]
        exact row_kept0 hown fun x hx => hset x fun e => hggt (by
          have : (Value.slice (some ⟨g, 0, none⟩) (z.tags.length + 1) c).ownBlock = some g := rfl
          rw [this] at hx
          injection hx with hx
          omega)
    · rw [if_neg e] at hy
      obtain ⟨d0, d1, d2, d3, d4⟩ := h.c i y hy
      rw [upd, if_neg fun q => e q.symm]
      refine ⟨?_, ?_, ?_, ?_, row_kept0 d4 fun x hx => ?_⟩
      · rw [hch.cell gt _ fun q => by omega, hc6]; exact d0
      · rw [hch.cell gt _ fun q => by omega, hc6]; exact d1
      · rw [hch.cell gt _ fun q => by omega, hc6]; exact d2
      · rw [hch.cell gt _ fun q => by omega, hc6]; exact d3
      · rw [hset x (h.vF i him x hx).2.2]
        exact hblk x (h.vlt him hx) fun q => h.vd i a him ham (fun q => e q.symm) x hx q
  · by_cases e : i = a
    · subst e
      rw [upd_same] at hx
      have hx' : some g = some x := hx
      injection hx' with hx'
      subst hx'
      rcases hgn with q | q
      · exact h.vF i hi g q
      · exact ⟨fun q2 => by have := hFl _ q2; omega, by omega, hggt⟩
    · rw [upd, if_neg e] at hx
      exact h.vF i hi x hx
  · by_cases e1 : i = a
    · subst e1
      rw [upd_same] at hx
      have hx' : some g = some x := hx
      injection hx' with hx'
      subst hx'
      rw [upd, if_neg fun q => hij q.symm]
      rcases hgn with q | q
      · exact h.vd i j hi hj hij g q
      · exact fun q2 => by have := h.vlt hj q2; omega
    · rw [upd, if_neg e1] at hx
      by_cases e2 : j = a
      · subst e2
        rw [upd_same]
        intro q2
        have q2' : some g = some x := q2
        injection q2' with q2'
        subst q2'
        rcases hgn with q | q
        · exact h.vd i j hi hj hij g hx q
        · have := h.vlt hi hx; omega
      · rw [upd, if_neg e2]
        exact h.vd i j hi hj hij x hx
  · have hs := app_size hg
    refine ⟨hs.1, hs.2.1, hs.2.2.1, ?_, fun x hx hn => ?_⟩
    · rw [hch.size]; have := hs.2.2.2; omega
    · rw [hset x fun e => hn (.inl e)]
      exact hblk x hx fun e => hn (.inr e)
/-- The packets are told. -/
theorem LS.told {w wr : World} {al : Option Addr} {m cl gt sz : Nat} {l : List Pace.Ln} {V : Nat → Value} {F : Nat → Prop} (h : LS w wr al m cl gt sz l V F) {a : Nat} {z : Pace.Ln} (hz : l[a]? = some z) (htl : z.tags.length < 9000000000000000000) (pk : List (Int × Nat)) (hpk : pk.length ≤ 8) {r : List Int} (htags : z.tags.drop z.told = Pace.tagsOf pk ++ r) (hto : z.told ≤ z.tags.length) (pa : Option Addr) (pc : Nat)
    (hP : ∀ j, j < pk.length → ∃ g q, pa = some ⟨g, q, none⟩ ∧ g ≠ gt ∧ wr.cell? ⟨g, q + j * 2, none⟩ = some (.int .i64 (pk.getD j (0, 0)).1)) :
    Calls Tryd.prog 27 #[.pointer (some ⟨gt, a * 4, none⟩), .slice pa pk.length pc] wr fun e w' => e = .returned (.bool true) ∧ LS w w' al m cl gt sz (l.set a { z with told := z.told + pk.length }) V F ∧ Fr wr w' (fun x => x = gt) := by
  have ham : a < m := by rw [h.len]; exact (List.getElem?_eq_some_iff.1 hz).1
  have h0 : 0 < m := by omega
  obtain ⟨c0, c1, c2, c3, c4⟩ := h.c a z hz
  obtain ⟨ta, tc, hv⟩ := row_len c4
  have hle : z.told + pk.length ≤ z.tags.length := by
    have := congrArg List.length htags
    rw [List.length_drop, List.length_append, Pace.tagsOf_length] at this
    omega
  rw [hv] at c0
  refine (told_walk gt (a * 4) z.tags.length tc pk.length pc z.told ta pa (fun j => (pk.getD j (0, 0)).1) wr (by omega) hle htl c0 c1 (h.fz h0 _) (fun j hj => ?_) hP).mono ?_
  · obtain ⟨g, cap, hv2, _, _, hog, _⟩ := row_shape c4 (by omega)
    refine ⟨g, 0, ?_, fun e => (h.vF a ham g hog).2.2 e, ?_⟩
    · rw [hv] at hv2; injection hv2
    · rw [Nat.zero_add]
      refine row_get0 c4 hog ?_
      have h1 : (z.tags.drop z.told)[j]? = some (pk.getD j (0, 0)).1 := by
        rw [htags, List.getElem?_append_left (by rw [Pace.tagsOf_length]; exact hj)]
        simp [Pace.tagsOf, List.getD, List.getElem?_eq_getElem hj]
      rw [List.getElem?_drop] at h1
      simp only [tagV, List.getElem?_map, h1]
      rfl
  · rintro e w' ⟨rfl, hch, hc, hsh⟩
    refine ⟨rfl, h.lane hz (z' := { z with told := z.told + pk.length }) rfl (hch.mono fun x o q => ⟨q.1, .inl q.2⟩) hsh hc ?_ ?_, hch.fr2 fun x o q => q.1⟩
    · rw [hch.cell gt _ fun q => by omega]; exact c2
    · rw [hch.cell gt _ fun q => by omega]; exact c3
/-- The lanes, batch by batch. -/
theorem sents_at {ck : Nat} {l l' : List Pace.Ln} {bs : List Bt} (h : Pace.Sents ck l bs l') : ∃ Ls : Nat → List Pace.Ln, Ls 0 = l ∧ Ls bs.length = l' ∧ (∀ k q, bs[k]? = some q → ∃ z, Pace.SOk ck (Ls k) q z ∧ Ls (k + 1) = Pace.tell (Ls k) q z) ∧ (∀ k, (Ls k).length = l.length) ∧ ∀ k, ∀ z ∈ Ls k, ∃ z0 ∈ l, z0.tags = z.tags := by
  induction h with
  | nil l => exact ⟨fun _ => l, rfl, rfl, fun k q hq => by simp at hq, fun _ => rfl, fun _ z hz => ⟨z, hz, rfl⟩⟩
  | @cons l l' q bs z hok _ ih =>
    obtain ⟨Ls, h0, h1, h2, h3, h4⟩ := ih
    refine ⟨fun k => if k = 0 then l else Ls (k - 1), rfl, ?_, fun k q' hq => ?_, fun k => ?_, fun k y hy => ?_⟩
    · show (if bs.length + 1 = 0 then l else Ls (bs.length + 1 - 1)) = l'
      rw [if_neg (by omega), Nat.add_sub_cancel]; exact h1
    · cases k with
      | zero =>
        simp at hq
        subst hq
        refine ⟨z, hok, ?_⟩
        show (if 0 + 1 = 0 then _ else Ls (0 + 1 - 1)) = _
        rw [if_neg (by omega)]
        exact h0
      | succ k =>
        obtain ⟨z', a, b⟩ := h2 k q' (by simpa using hq)
        refine ⟨z', ?_, ?_⟩
        · show Pace.SOk ck (if k + 1 = 0 then _ else Ls (k + 1 - 1)) q' z'
          rw [if_neg (by omega), Nat.add_sub_cancel]; exact a
        · show (if k + 1 + 1 = 0 then _ else Ls (k + 1 + 1 - 1)) = Pace.tell (if k + 1 = 0 then _ else Ls (k + 1 - 1)) q' z'
          rw [if_neg (by omega), if_neg (by omega), Nat.add_sub_cancel, Nat.add_sub_cancel]; exact b
    · show (if k = 0 then l else Ls (k - 1)).length = l.length
      split
      · rfl
      · rw [h3]; simp [Pace.tell]
    · have hy' : y ∈ (if k = 0 then l else Ls (k - 1)) := hy
      split at hy'
      · exact ⟨y, hy', rfl⟩
      · obtain ⟨y0, a, b⟩ := h4 _ y hy'
        rcases List.mem_or_eq_of_mem_set a with q2 | q2
        · exact ⟨y0, q2, b⟩
        · exact ⟨z, List.mem_of_getElem? hok.at', by rw [← b, q2]⟩
end Go.Proofs.YtogdekjklbbbiaaDoor

namespace Go.Proofs.YtogdekjklbbbiaaDoor
open Go.ChangeShapes Go.WideShapes Go.ChangeAt Go.RowKit
set_option linter.unusedSimpArgs false
set_option linter.unusedVariables false

/-- What Close tells is the rest. -/
theorem close_lanes (fs : List Pace.Fl) : ∀ (l : List Pace.Ln), (fs.map (·.num)).Nodup → (∀ x ∈ fs, ∃ z, l[x.num - 1]? = some z ∧ 1 ≤ x.num ∧ z.gone = false ∧ z.tags.drop z.told = Pace.tagsOf x.pk ∧ z.told ≤ z.tags.length) → (∀ (i : Nat) (z : Pace.Ln), l[i]? = some z → (∀ x ∈ fs, x.num ≠ i + 1) → z.told = z.tags.length) →
    ∃ Ls : Nat → List Pace.Ln, Ls 0 = l ∧ (∀ k q, (clB fs)[k]? = some q → 1 ≤ q.1 ∧ ∃ z, (Ls k)[q.1 - 1]? = some z ∧ z.gone = false ∧ z.tags.drop z.told = Pace.tagsOf q.2.2 ∧ z.told ≤ z.tags.length ∧ Ls (k + 1) = (Ls k).set (q.1 - 1) { z with told := z.told + q.2.2.length } ∧ ∃ z0 ∈ l, z0.tags = z.tags) ∧ (∀ (i : Nat) (z : Pace.Ln), (Ls (clB fs).length)[i]? = some z → z.told = z.tags.length) := by
  induction fs with
  | nil =>
    intro l _ _ hoff
    exact ⟨fun _ => l, rfl, fun k q hq => by simp [clB] at hq, fun i z hz => hoff i z hz (fun x hx => by cases hx)⟩
  | cons x fs ih =>
    intro l hnd hfl hoff
    simp only [List.map_cons, List.nodup_cons] at hnd
    obtain ⟨z, h1, h2, h3, h4, h5⟩ := hfl x (List.mem_cons_self ..)
    have hlt := (List.getElem?_eq_some_iff.1 h1).1
    have hne : ∀ y ∈ fs, y.num ≠ x.num := fun y hy e => hnd.1 (List.mem_map.2 ⟨y, hy, e⟩)
    have htl : z.told + x.pk.length = z.tags.length := by
      have := congrArg List.length h4
      rw [List.length_drop, Pace.tagsOf_length] at this
      omega
    by_cases h0 : x.pk.length = 0
    · have e : clB (x :: fs) = clB fs := by rw [clB_cons, if_pos h0]; rfl
      rw [e]
      refine ih l hnd.2 (fun y hy => hfl y (List.mem_cons_of_mem _ hy)) fun i y hy hn => ?_
      by_cases e2 : x.num = i + 1
      · have : i = x.num - 1 := by omega
        subst this
        rw [h1] at hy
        injection hy with hy
        subst hy
        omega
      · refine hoff i y hy fun w hw => ?_
        rcases List.mem_cons.1 hw with rfl | hw
        · exact e2
        · exact hn w hw
    · have e : clB (x :: fs) = (x.num, -1, x.pk) :: clB fs := by rw [clB_cons, if_neg h0]; rfl
      rw [e]
      have H1 : ∀ y ∈ fs, ∃ z', (l.set (x.num - 1) { z with told := z.told + x.pk.length })[y.num - 1]? = some z' ∧ 1 ≤ y.num ∧ z'.gone = false ∧ z'.tags.drop z'.told = Pace.tagsOf y.pk ∧ z'.told ≤ z'.tags.length := fun y hy => by
        obtain ⟨y', b1, b2⟩ := hfl y (List.mem_cons_of_mem _ hy)
        refine ⟨y', ?_, b2⟩
        have := hne y hy
        have := b2.1
        rw [List.getElem?_set, if_neg (by omega)]
        exact b1
      have H2 : ∀ (i : Nat) (y : Pace.Ln), (l.set (x.num - 1) { z with told := z.told + x.pk.length })[i]? = some y → (∀ x ∈ fs, x.num ≠ i + 1) → y.told = y.tags.length := fun i y hy hn => by
        rw [List.getElem?_set] at hy
        by_cases e2 : x.num - 1 = i
        · rw [if_pos e2, if_pos (by omega)] at hy
          injection hy with hy
          subst hy
          exact htl
        · rw [if_neg e2] at hy
          refine hoff i y hy fun w hw => ?_
          rcases List.mem_cons.1 hw with rfl | hw
          · omega
          · exact hn w hw
      obtain ⟨Ls, k1, k2, k3⟩ := ih (l.set (x.num - 1) { z with told := z.told + x.pk.length }) hnd.2 H1 H2
      refine ⟨fun k => if k = 0 then l else Ls (k - 1), rfl, fun k q hq => ?_, fun i y hy => ?_⟩
      · cases k with
        | zero =>
          simp at hq
          subst hq
          refine ⟨h2, z, h1, h3, h4, h5, ?_, z, List.mem_of_getElem? h1, rfl⟩
          show (if 0 + 1 = 0 then l else Ls (0 + 1 - 1)) = _
          rw [if_neg (by omega)]
          exact k1
        | succ k =>
          obtain ⟨a1, y, a2, a3, a4, a5, a6, y0, a7, a8⟩ := k2 k q (by simpa using hq)
          refine ⟨a1, y, ?_, a3, a4, a5, ?_, ?_⟩
          · show (if k + 1 = 0 then l else Ls (k + 1 - 1))[q.1 - 1]? = _
            rw [if_neg (by omega), Nat.add_sub_cancel]; exact a2
          · show (if k + 1 + 1 = 0 then l else Ls (k + 1 + 1 - 1)) = (if k + 1 = 0 then l else Ls (k + 1 - 1)).set _ _
            rw [if_neg (by omega), if_neg (by omega), Nat.add_sub_cancel, Nat.add_sub_cancel]; exact a6
          · rcases List.mem_or_eq_of_mem_set a7 with q2 | q2
            · exact ⟨y0, q2, a8⟩
            · exact ⟨z, List.mem_of_getElem? h1, by rw [← a8, q2]⟩
      · have hy' : (if (clB fs).length + 1 = 0 then l else Ls ((clB fs).length + 1 - 1))[i]? = some y := hy
        rw [if_neg (by omega), Nat.add_sub_cancel] at hy'
        exact k3 i y hy'
theorem clB_nums (l : List Pace.Fl) : ((clB l).map (·.1)).Sublist (l.map (·.num)) := by
  induction l with
  | nil => exact List.Sublist.refl _
  | cons f l ih =>
    rw [clB_cons]
    split
    · exact ih.cons _
    · exact ih.cons_cons _
theorem clB_mem {l : List Pace.Fl} {q : BtI} (h : q ∈ clB l) : q.2.1 = -1 ∧ ∃ f ∈ l, f.num = q.1 ∧ f.pk = q.2.2 ∧ 0 < q.2.2.length := by
  obtain ⟨f, hf, h2⟩ := List.mem_flatMap.1 h
  split at h2
  · cases h2
  · rename_i h0
    rw [List.mem_singleton] at h2
    subst h2
    exact ⟨rfl, f, hf, rfl, rfl, by show 0 < f.pk.length; omega⟩
theorem clB_waits (l : List Pace.Fl) : totalI (clB l) = Pace.waits l := by
  induction l with
  | nil => rfl
  | cons f l ih =>
    rw [clB_cons, totalI_append, ih]
    simp only [Pace.waits, List.map_cons, List.sum_cons]
    split
    · rename_i h0
      have : totalI ([] : List BtI) = 0 := rfl
      omega
    · rw [totalI_one]
theorem BS.kept {w w' : World} {B : BV} {a : Option Addr} {p : Nat → Option Addr} {c : Nat → Nat} (h : BS w B a p c) (ha : ∀ g o, a = some ⟨g, o, none⟩ → 0 < B.n → w'.heap[g]? = w.heap[g]?) (hp : ∀ i g o, i < B.n → p i = some ⟨g, o, none⟩ → w'.heap[g]? = w.heap[g]?) : BS w' B a p c := by
  refine ⟨fun i hi => ?_, fun i j hi hj => ?_⟩
  · obtain ⟨g, o, e, c0, c1, c2⟩ := h.row i hi
    have hk := ha g o e (by omega)
    have hc : ∀ x, w'.cell? ⟨g, x, none⟩ = w.cell? ⟨g, x, none⟩ := fun x => World.cell?_of_block (w := w) (a := ⟨g, x, none⟩) hk
    exact ⟨g, o, e, by rw [hc]; exact c0, by rw [hc]; exact c1, by rw [hc]; exact c2⟩
  · obtain ⟨g, o, e, c0, c1⟩ := h.pk i j hi hj
    have hk := hp i g o hi e
    have hc : ∀ x, w'.cell? ⟨g, x, none⟩ = w.cell? ⟨g, x, none⟩ := fun x => World.cell?_of_block (w := w) (a := ⟨g, x, none⟩) hk
    exact ⟨g, o, e, by rw [hc]; exact c0, by rw [hc]; exact c1⟩
/-- Batches whose blocks are not the lanes'. -/
structure BK (wr : World) (bs : List BtI) (gt : Nat) (ab : Option Addr) (pb : Nat → Option Addr) (xb : Nat → Nat) : Prop where
  st : BS wr (bvOf bs) ab pb xb
  ra : ∀ g o, ab = some ⟨g, o, none⟩ → 0 < bs.length → g ≠ gt ∧ g < wr.heap.size
  rp : ∀ i g o, i < bs.length → pb i = some ⟨g, o, none⟩ → g ≠ gt ∧ g < wr.heap.size
theorem BK.kept {wr w' : World} {bs : List BtI} {gt : Nat} {ab : Option Addr} {pb : Nat → Option Addr} {xb : Nat → Nat} (h : BK wr bs gt ab pb xb) (hf : Fr wr w' (fun x => x = gt)) : BK w' bs gt ab pb xb :=
  ⟨h.st.kept (fun g o e h0 => hf.blk g (h.ra g o e h0).2 (h.ra g o e h0).1) (fun i g o hi e => hf.blk g (h.rp i g o hi e).2 (h.rp i g o hi e).1), fun g o e h0 => ⟨(h.ra g o e h0).1, Nat.lt_of_lt_of_le (h.ra g o e h0).2 hf.size⟩, fun i g o hi e => ⟨(h.rp i g o hi e).1, Nat.lt_of_lt_of_le (h.rp i g o hi e).2 hf.size⟩⟩
theorem bk_of {wr : World} {n0 : Nat} {N : Nat → Prop} {bs : List BtI} {v : Value} (h : BAi wr n0 N bs v) (gt : Nat) (hg : gt < n0) : ∃ ab cb pb xb, v = .slice ab bs.length cb ∧ BK wr bs gt ab pb xb := by
  obtain ⟨a, c, p, xc, gl, hv, hS, hgl, hp⟩ := bs_of h
  refine ⟨a, c, p, xc, hv, hS, fun g o e h0 => ?_, fun i g o hi e => ?_⟩
  · obtain ⟨h1, h2, h3, _⟩ := hgl h0
    rw [h1] at e
    injection e with e
    injection e with e1 e2
    subst e1
    exact ⟨by omega, h3⟩
  · obtain ⟨g', o', h1, h2, h3, _⟩ := hp i hi
    rw [h1] at e
    injection e with e
    injection e with e1 e2
    subst e1
    exact ⟨by omega, h3⟩
theorem bv_get {bs : List BtI} {k : Nat} (hk : k < bs.length) : ∃ q, bs[k]? = some q ∧ q ∈ bs ∧ (bvOf bs).fl k = (q.1 : Int) ∧ (bvOf bs).st k = q.2.1 ∧ (bvOf bs).ln k = q.2.2.length ∧ ∀ j, (bvOf bs).tg k j = (q.2.2.getD j (0, 0)).1 := by
  refine ⟨bs[k], List.getElem?_eq_getElem hk, List.getElem_mem hk, ?_⟩
  have e : bs.getD k btD = bs[k] := by rw [List.getD, List.getElem?_eq_getElem hk]; rfl
  refine ⟨?_, ?_, ?_, fun j => ?_⟩
  · show ((bs.getD k btD).1 : Int) = _; rw [e]
  · show (bs.getD k btD).2.1 = _; rw [e]
  · show (bs.getD k btD).2.2.length = _; rw [e]
  · show ((bs.getD k btD).2.2.getD j (0, 0)).1 = _; rw [e]
end Go.Proofs.YtogdekjklbbbiaaDoor

namespace Go.Proofs.YtogdekjklbbbiaaDoor
open Go.ChangeShapes Go.WideShapes Go.ChangeAt Go.RowKit
set_option linter.unusedSimpArgs false
set_option linter.unusedVariables false

/-- The first batch of an answer. -/
theorem ba_first {w : World} {n0 : Nat} {N : Nat → Prop} {q : Bt} {bs : List Bt} {v : Value} (h : BA w n0 N (q :: bs) v) : ∃ g c g2 o2, v = .slice (some ⟨g, 0, none⟩) (bs.length + 1) c ∧ w.cell? ⟨g, 0, none⟩ = some (.int .i64 (q.1 : Int)) ∧ w.cell? ⟨g, 1, none⟩ = some (.int .i64 (q.2.1 : Int)) ∧ w.cell? ⟨g, 2, none⟩ = some (.slice (some ⟨g2, o2, none⟩) q.2.2.length q.2.2.length) ∧ pkAt w g2 o2 q.2.2 := by
  obtain ⟨⟨cs, hr, ha⟩, _⟩ := h
  cases ha with
  | cons h1 h2 =>
    obtain ⟨g2, o2, rfl, _, _, _, hp, _⟩ := h1
    obtain ⟨g, c, hv, _, _, hvg, _⟩ := row_shape hr (by simp)
    refine ⟨g, c, g2, o2, by rw [hv]; simp, row_get0 hr hvg rfl, row_get0 hr hvg rfl, row_get0 hr hvg rfl, hp⟩
theorem ba_len {w : World} {n0 : Nat} {N : Nat → Prop} {bs : List Bt} {v : Value} (h : BA w n0 N bs v) : ∃ a c, v = .slice a bs.length c := by
  obtain ⟨⟨cs, hr, ha⟩, _⟩ := h
  exact row_len hr
/-- The program is alive. -/
theorem alive_any (w : World) (hz : 0 < w.heap.size) (hT : TabW w) : Calls Tryd.prog 17 #[] w fun e w' => e = .returned (.bool true) ∧ Fr w w' (fun _ => False) := by
  refine alive_walk w (fun b w1 => PX w (Pace.PS.new 1500) ⟨0, 0, 0, 0, 0, 0⟩ b w1) (fun b w1 => PX w ((Pace.PS.new 1500).add 1000 1500) ⟨0, 0, 0, 0, 0, 0⟩ b w1) (fun b w1 => PX w (((Pace.PS.new 1500).add 1000 1500).enq 1 7 100) ⟨1, 0, 0, 0, 0, 0⟩ b w1) (fun w1 => Fr w w1 (fun _ => False)) ?_ ?_ ?_ ?_
  · exact PX.new (Fr.refl w _) hz 1500 (by omega) (by omega)
  · rintro b w1 ⟨y, hP, hf, hy⟩
    refine (pa_addR hP (by show 0 < 8000000000000000000; omega) 1000 1500).mono ?_
    rintro e w' ⟨rfl, y', hP', hs⟩
    have hR : addR (Pace.PS.new 1500) 1000 1500 = 0 := by simp [addR, Pace.allowed, Pace.PS.new]
    have hN : addN (Pace.PS.new 1500) 1000 1500 = 1 := by unfold addN; rw [if_pos hR]; rfl
    have hPp : addP (Pace.PS.new 1500) 1000 1500 = (Pace.PS.new 1500).add 1000 1500 := by unfold addP; rw [if_pos hR]; rfl
    rw [hR, hN]
    rw [hPp] at hP'
    exact ⟨rfl, PX.step hf hy hP' hs⟩
  · rintro b w1 ⟨y, hP, hf, hy⟩
    refine (pa_enq hP (by show 0 < 8000000000000000000; omega) (by show 0 < 8000000000000000000; omega) 1 7 100).mono ?_
    rintro e w' ⟨rfl, y', hP', hs⟩
    have hR : enqR ((Pace.PS.new 1500).add 1000 1500) 1 100 = 0 := by simp [enqR, lookI, Pace.PS.new, Pace.PS.add]
    have hPp : enqP ((Pace.PS.new 1500).add 1000 1500) 1 7 100 = ((Pace.PS.new 1500).add 1000 1500).enq 1 7 100 := by unfold enqP; rw [if_pos hR]; rfl
    have hCp : enqC ((Pace.PS.new 1500).add 1000 1500) 1 100 ⟨0, 0, 0, 0, 0, 0⟩ = ⟨1, 0, 0, 0, 0, 0⟩ := by unfold enqC; rw [if_pos hR]
    rw [hR]
    rw [hPp, hCp] at hP'
    exact ⟨rfl, PX.step hf hy hP' hs⟩
  · rintro b w1 ⟨y, hP, hf, hy⟩
    refine (pa_poll hP (hT.fr hf (fun q => q) hz) (by show 1 < 9000000000000000000; omega) (by show 0 < 8000000000000000000; omega) 5 9 (by omega)).mono ?_
    rintro e w' ⟨v, rfl, n0, y', hP', hB, hs, hn0⟩
    have hb : ((((Pace.PS.new 1500).add 1000 1500).enq 1 7 100).poll (5 : Int).toNat (9 : Int).toNat).1 = [(1, 5, [(7, 100)])] := alive_poll
    rw [hb] at hB
    obtain ⟨g, c, g2, o2, rfl, c0, c1, c2, hp⟩ := ba_first hB
    obtain ⟨y2, _, hfr, _⟩ := PX.step hf hy hP' hs
    exact ⟨g, c, g2, o2, rfl, c0, c1, c2, hp 0 _ rfl, hfr⟩
theorem least_next {p : Pace.PS} {v : Int} (ha : p.asks = []) (h : nextOf p v) : LeastOf (p.st.A.map fun a => (a.num, a.at')) v := by
  unfold nextOf at h
  rw [if_pos ha] at h; exact h
theorem least_due {p : Pace.PS} {v : Int} (h : LeastOf (p.st.A.map fun a => (a.num, a.at')) v) (hd : Pace.due p.st = none) : v = -1 ∨ ((p.st.clock : Int) < v ∧ ∃ a ∈ p.st.A, v = (a.at' : Int) ∧ ∀ z ∈ p.st.A, a.at' ≤ z.at') := by
  rcases h with ⟨_, rfl⟩ | ⟨x, hx, rfl, hle⟩
  · exact .inl rfl
  · obtain ⟨a, ha, rfl⟩ := List.mem_map.1 hx
    have := Pace.due_none hd a ha
    refine .inr ⟨?_, a, ha, rfl, fun z hz => hle (z.num, z.at') (List.mem_map.2 ⟨z, hz, rfl⟩)⟩
    show (p.st.clock : Int) < (a.at' : Int)
    omega
set_option maxHeartbeats 1000000 in
/-- All but the row. -/
theorem prompt_any (q : Int) (sa : Option Addr) (n cp : Nat) (w : World) (hz : 0 < w.heap.size) (hT : TabW w) (hb : n < 8796093022208) (hsa : 0 < n → ∃ g o, sa = some ⟨g, o, none⟩) (op : Nat → OpV)
    (hC : ∀ k, k < n → ∀ g o, sa = some ⟨g, o, none⟩ → w.cell? ⟨g, o + k * 6, none⟩ = some (.int .i64 (op k).k) ∧ w.cell? ⟨g, o + k * 6 + 1, none⟩ = some (.int .i64 (op k).a) ∧ w.cell? ⟨g, o + k * 6 + 2, none⟩ = some (.int .i64 (op k).b) ∧ w.cell? ⟨g, o + k * 6 + 3, none⟩ = some (.int .i64 (op k).c) ∧ w.cell? ⟨g, o + k * 6 + 4, none⟩ = some (.int .i64 (op k).w) ∧ w.cell? ⟨g, o + k * 6 + 5, none⟩ = some (.slice (op k).sa (op k).sn (op k).sc)) :
    Calls Tryd.prog 6 #[.int .i64 q, .slice sa n cp] w fun e w' => e = .returned (.bool true) ∧ Fr w w' (fun _ => False) := by
  have hTr : ∀ {wr : World}, Fr w wr (fun _ => False) → TabW wr := fun hf => hT.fr hf (fun q => q) hz
  have hkeep : ∀ {wr w' : World} {y y' : Lay} {b : Nat} {p : Pace.PS} {c : Cn} (o : Obj), PA (wr.alloc o) b y p c → (∀ k, y.own k → k < wr.heap.size) → Stp (wr.alloc o) w' y y' → w'.heap[wr.heap.size]? = some o := fun {wr w' y y' b p c} o _ hlt hs => by
    rw [hs.fr.blk wr.heap.size (by simp) fun q => by have := hlt _ q; omega]
    exact heap_alloc_new _ _
  refine prompt_walk q sa n cp w hb hsa op (fun w1 => Fr w w1 (fun _ => False))
    (fun b k ck wr => k ≤ n ∧ ∃ p c, PX w p c b wr ∧ p.st.clock = ck ∧ Bd p c k)
    (fun b k ck m wr => k < n ∧ ∃ p c, PX w p c b wr ∧ p.st.clock = ck ∧ Bd p c (k + 1) ∧ p.asks = [] ∧ ((m : Int) < (op k).b → Pace.due p.st = none))
    (fun b ck wr => ∃ p c, PX w p c b wr ∧ p.st.clock = ck ∧ Bd p c (n + 1) ∧ p.asks = [] ∧ Pace.due p.st = none)
    (fun _ _ _ => True)
    (fun b v wr => ∃ p c, PX w p c b wr ∧ Bd p c (n + 1) ∧ p.asks = [] ∧ (p.st.clock : Int) < v ∧ v ≤ 4000000000000000000 ∧ ∃ a ∈ p.st.A, v = (a.at' : Int) ∧ ∀ z ∈ p.st.A, a.at' ≤ z.at')
    (fun b v wr => ∃ p c, PX w p c b wr ∧ Bd p c (n + 2) ∧ p.asks = [] ∧ (p.st.clock : Int) < v ∧ v ≤ 4000000000000000000 ∧ ∃ a ∈ p.st.A, v = (a.at' : Int) ∧ ∀ z ∈ p.st.A, a.at' ≤ z.at')
    (fun w' => Fr w w' (fun _ => False)) (alive_any w hz hT) ?_ ?_ ?_ ?_ ?_ ?_ ?_ ?_ ?_ ?_ ?_ ?_ ?_
  · intro w1 hf
    by_cases hq : q < 1500 ∨ 1000000 < q
    · refine (new_bad q w1 hq).mono ?_
      rintro e w' ⟨rfl, rfl⟩
      exact .inl ⟨rfl, hq, hf⟩
    · refine (PX.new hf hz q (by omega) (by omega)).mono ?_
      rintro e w' ⟨b, rfl, hP⟩
      exact .inr ⟨b, rfl, Nat.zero_le _, _, _, hP, rfl, ⟨Nat.le_refl _, Nat.le_refl _, Nat.le_refl _, Nat.le_refl _, Nat.le_refl _⟩⟩
  · rintro b k ck wr ⟨_, p, c, ⟨y, ⟨P, hM, hI, _⟩, hf, hy⟩, rfl, _⟩ hk
    refine ⟨by have := hI.pi.wf.clock; omega, fun g o e => ?_⟩
    have hcell := hC k hk g o e
    have hg : g < w.heap.size := World.block_lt_of_cell? _ _ hcell.1
    have hs : ∀ j, wr.cell? ⟨g, j, none⟩ = w.cell? ⟨g, j, none⟩ := fun j => World.cell?_of_block (w := w) (a := ⟨g, j, none⟩) (hf.blk g hg fun q => q)
    rw [hs, hs, hs, hs, hs, hs]
    exact hcell
  · rintro b k ck wr ⟨_, p, c, hPX, rfl, hB⟩ hk _
    have hlt : ∃ y, PA wr b y p c ∧ Fr w wr (fun _ => False) ∧ (∀ k, y.own k → w.heap.size ≤ k) ∧ ∀ k, y.own k → k < wr.heap.size := by
      obtain ⟨y, h1, h2, h3⟩ := hPX
      have h1' := h1
      obtain ⟨P, hM, _⟩ := h1
      exact ⟨y, h1', h2, h3, hM.lt⟩
    obtain ⟨y, h1, h2, h3, hlt⟩ := hlt
    have hPa := h1.kept (O := fun _ => False) ((Fr.refl wr _).alloc (op k).obj) (fun _ _ q => q)
    refine (pa_addR hPa (by have := hB.nw; omega) (op k).a (op k).b).mono ?_
    rintro e w' ⟨rfl, y', hP', hs⟩
    refine ⟨_, _, rfl, ⟨by omega, _, _, PX.step (h2.alloc _) h3 hP' hs, ?_, ?_⟩, hkeep _ hPa hlt hs⟩
    · unfold addP; split <;> rfl
    · have := hB.nw; have := hB.tk; have := hB.rf; have := hB.sn; have := hB.dr
      refine ⟨?_, by omega, by omega, by omega, by omega⟩
      unfold addP
      split
      · show p.newest + 1 ≤ k + 1; omega
      · omega
  · rintro b k ck wr ⟨_, p, c, hPX, rfl, hB⟩ hk _
    obtain ⟨y, h1, h2, h3⟩ := hPX
    have hlt : ∀ k, y.own k → k < wr.heap.size := by obtain ⟨P, hM, _⟩ := h1; exact hM.lt
    have hPa := h1.kept (O := fun _ => False) ((Fr.refl wr _).alloc (op k).obj) (fun _ _ q => q)
    refine (pa_set hPa (op k).a (op k).b (op k).c).mono ?_
    rintro e w' ⟨rfl, y', hP', hs⟩
    refine ⟨_, rfl, ⟨by omega, _, _, PX.step (h2.alloc _) h3 hP' hs, ?_, ?_⟩, hkeep _ hPa hlt hs⟩
    · unfold setP; split <;> rfl
    · have := hB.nw; have := hB.tk; have := hB.rf; have := hB.sn; have := hB.dr
      refine ⟨?_, by omega, by omega, by omega, by omega⟩
      unfold setP
      split
      · show p.newest ≤ k + 1; omega
      · omega
  · rintro b k ck wr ⟨_, p, c, hPX, rfl, hB⟩ hk _
    obtain ⟨y, h1, h2, h3⟩ := hPX
    have hlt : ∀ k, y.own k → k < wr.heap.size := by obtain ⟨P, hM, _⟩ := h1; exact hM.lt
    have hPa := h1.kept (O := fun _ => False) ((Fr.refl wr _).alloc (op k).obj) (fun _ _ q => q)
    refine (pa_enq hPa (by have := hB.rf; omega) (by have := hB.tk; omega) (op k).a (op k).b (op k).c).mono ?_
    rintro e w' ⟨rfl, y', hP', hs⟩
    refine ⟨_, rfl, ⟨by omega, _, _, PX.step (h2.alloc _) h3 hP' hs, ?_, ?_⟩, hkeep _ hPa hlt hs⟩
    · unfold enqP; split <;> rfl
    · have := hB.nw; have := hB.tk; have := hB.rf; have := hB.sn; have := hB.dr
      unfold enqP enqC
      split
      · exact ⟨by show p.newest ≤ k + 1; omega, by show c.taken + 1 ≤ k + 1; omega, by show c.refused ≤ k + 1; omega, by show c.sent ≤ 64 * (k + 1); omega, by show c.dropped ≤ 8 * (k + 1); omega⟩
      · exact ⟨by show p.newest ≤ k + 1; omega, by show c.taken ≤ k + 1; omega, by show c.refused + 1 ≤ k + 1; omega, by show c.sent ≤ 64 * (k + 1); omega, by show c.dropped ≤ 8 * (k + 1); omega⟩
  · rintro b k ck wr ⟨_, p, c, hPX, rfl, hB⟩ hk _
    obtain ⟨y, h1, h2, h3⟩ := hPX
    have hlt : ∀ k, y.own k → k < wr.heap.size := by obtain ⟨P, hM, _⟩ := h1; exact hM.lt
    have hl8 : (remL p (op k).a).length ≤ 8 := by
      obtain ⟨P, hM, hI, _⟩ := h1
      unfold remL
      split
      · exact Nat.zero_le _
      · rename_i x hx
        exact (hI.pi.wf.F x (lookI_some hx hI.pi.wf.nums).1).few
    have hPa := h1.kept (O := fun _ => False) ((Fr.refl wr _).alloc (op k).obj) (fun _ _ q => q)
    refine (pa_remove hPa (by have := hB.nw; omega) (by have := hB.dr; omega) (op k).a).mono ?_
    rintro e w' ⟨v, rfl, y', hP', hs, _⟩
    refine ⟨_, _, rfl, ⟨by omega, _, _, PX.step (h2.alloc _) h3 hP' hs, ?_, ?_⟩, hkeep _ hPa hlt hs⟩
    · unfold remP; split <;> rfl
    · have := hB.nw; have := hB.tk; have := hB.rf; have := hB.sn; have := hB.dr
      refine ⟨?_, by show c.taken ≤ k + 1; omega, by show c.refused ≤ k + 1; omega, by show c.sent ≤ 64 * (k + 1); omega, by show c.dropped + _ ≤ 8 * (k + 1); omega⟩
      unfold remP
      split
      · omega
      · show p.newest ≤ k + 1; omega
  · rintro b k ck wr ⟨_, p, c, hPX, rfl, hB⟩ hk _
    obtain ⟨y, h1, h2, h3⟩ := hPX
    have hlt : ∀ k, y.own k → k < wr.heap.size := by obtain ⟨P, hM, _⟩ := h1; exact hM.lt
    have hI : p.Inv := by obtain ⟨P, hM, hI, _⟩ := h1; exact hI
    have hPa := h1.kept (O := fun _ => False) ((Fr.refl wr _).alloc (op k).obj) (fun _ _ q => q)
    have hb1 := hB.nw; have hb2 := hB.tk; have hb3 := hB.rf; have hb4 := hB.sn; have hb5 := hB.dr
    by_cases hn : (op k).a ≤ 4000000000000000000
    · refine (pa_poll hPa (hTr (h2.alloc _)) (by omega) (by omega) (op k).a (op k).b hn).mono ?_
      rintro e w' ⟨v, rfl, n0, y', hP', hBA, hs, hn0⟩
      obtain ⟨a, cc, rfl⟩ := ba_len hBA
      have ht := poll_len hI (now := (op k).a.toNat) (by omega) (op k).b.toNat
      refine ⟨hkeep _ hPa hlt hs, .inr ⟨a, _, cc, rfl, hk, _, _, PX.step (h2.alloc _) h3 hP' hs, ?_, ⟨Nat.le_trans hb1 (by omega), by show c.taken ≤ k + 1; omega, by show c.refused ≤ k + 1; omega, by show c.sent + _ ≤ 64 * (k + 1); omega, by show c.dropped ≤ 8 * (k + 1); omega⟩, rfl, fun hm => poll_few (by omega)⟩⟩
      rw [poll_clock]; omega
    · refine (pa_poll_bad hPa (op k).a (op k).b (by omega)).mono ?_
      rintro e w' ⟨rfl, rfl⟩
      refine ⟨heap_alloc_new _ _, .inl ⟨_, rfl, by omega, p, c, ⟨y, hPa, h2.alloc _, h3⟩, rfl, ⟨by omega, by omega, by omega, by omega, by omega⟩⟩⟩
  · rintro b k ck m wr ⟨hk, p, c, ⟨y, h1, h2, h3⟩, rfl, hB, ha, hd⟩ _
    refine (pa_next h1 (hTr h2)).mono ?_
    rintro e w' ⟨v, rfl, hv, hP', hf⟩
    refine ⟨v, rfl, fun hm => ?_, ⟨by omega, p, c, ⟨y, hP', h2.trans hf (fun _ _ q => q), h3⟩, rfl, hB⟩, fun z hz => hf.blk z hz fun q => q⟩
    rcases least_due (least_next ha hv) (hd hm) with q | ⟨q, _⟩
    · exact .inl q
    · exact .inr q
  · rintro b k ck wr ⟨_, p, c, hPX, rfl, hB⟩ hk
    have := hB.nw; have := hB.tk; have := hB.rf; have := hB.sn; have := hB.dr
    exact ⟨by omega, p, c, hPX.alloc _, rfl, ⟨by omega, by omega, by omega, by omega, by omega⟩⟩
  · rintro b ck wr ⟨_, p, c, ⟨y, h1, h2, h3⟩, rfl, hB⟩
    have hI : p.Inv := by obtain ⟨P, hM, hI, _⟩ := h1; exact hI
    have hck := hI.pi.wf.clock
    have hb1 := hB.nw; have hb2 := hB.tk; have hb3 := hB.rf; have hb4 := hB.sn; have hb5 := hB.dr
    refine (pa_poll h1 (hTr h2) (by omega) (by omega) (p.st.clock : Int) 64 (by omega)).mono ?_
    rintro e w' ⟨v, rfl, n0, y', hP', hBA, hs, hn0⟩
    obtain ⟨a, cc, rfl⟩ := ba_len hBA
    have ht := poll_len hI (now := (p.st.clock : Int).toNat) (by omega) (64 : Int).toNat
    refine ⟨a, _, cc, rfl, ht.1, _, _, PX.step h2 h3 hP' hs, ?_, ⟨Nat.le_trans hb1 (by omega), by show c.taken ≤ n + 1; omega, by show c.refused ≤ n + 1; omega, by show c.sent + _ ≤ 64 * (n + 1); have := ht.2; show c.sent + total (p.poll (p.st.clock : Int).toNat (64 : Int).toNat).1 ≤ _; omega, by show c.dropped ≤ 8 * (n + 1); omega⟩, rfl, poll_all hI (by omega)⟩
    rw [poll_clock]; omega
  · rintro b ck wr ⟨p, c, ⟨y, h1, h2, h3⟩, rfl, hB, ha, hd⟩
    refine (pa_next h1 (hTr h2)).mono ?_
    rintro e w' ⟨v, rfl, hv, hP', hf⟩
    refine ⟨v, rfl, ?_⟩
    have hfr := h2.trans hf (fun _ _ q => q)
    rcases least_due (least_next ha hv) hd with q | ⟨q, q2⟩
    · exact .inl ⟨q, hfr⟩
    · by_cases hbig : 4000000000000000000 < v
      · exact .inr (.inl ⟨q, hbig, hfr⟩)
      · exact .inr (.inr ⟨q, by omega, by omega, p, c, ⟨y, hP', hfr, h3⟩, hB, ha, q, by omega, q2⟩)
  · rintro b v wr ⟨p, c, ⟨y, h1, h2, h3⟩, hB, ha, hv, hv2, a, haA, hva, hle⟩
    have hI : p.Inv := by obtain ⟨P, hM, hI, _⟩ := h1; exact hI
    have hb1 := hB.nw; have hb2 := hB.tk; have hb3 := hB.rf; have hb4 := hB.sn; have hb5 := hB.dr
    refine (pa_poll h1 (hTr h2) (by omega) (by omega) (v - 1) 9 (by omega)).mono ?_
    rintro e w' ⟨r, rfl, n0, y', hP', hBA, hs, hn0⟩
    have hst : (Pace.admit (Pace.tick p.st (v - 1).toNat) p.asks).A = p.st.A ∧ (Pace.admit (Pace.tick p.st (v - 1).toNat) p.asks).clock = max p.st.clock (v - 1).toNat := by rw [ha]; exact ⟨rfl, rfl⟩
    have hdue : Pace.due (Pace.admit (Pace.tick p.st (v - 1).toNat) p.asks) = none := by
      unfold Pace.due
      rw [hst.1, hst.2]
      cases hbe : Pace.best p.st.A with
      | none => rfl
      | some z =>
        have := hle z (Pace.best_some hbe).1
        simp only [Option.filter]
        rw [if_neg (by simp; omega)]
    have hrel : p.poll (v - 1).toNat (9 : Int).toNat = ([], { p with st := Pace.admit (Pace.tick p.st (v - 1).toNat) p.asks, asks := [] }) := by
      unfold Pace.PS.poll
      rw [rel_none hdue]
    rw [hrel] at hP' hBA
    obtain ⟨a', cc, rfl⟩ := ba_len hBA
    refine ⟨a', cc, 0, rfl, _, _, PX.step h2 h3 hP' hs, ⟨Nat.le_trans hb1 (by omega), by show c.taken ≤ n + 2; omega, by show c.refused ≤ n + 2; omega, by show c.sent + 0 ≤ 64 * (n + 2); omega, by show c.dropped ≤ 8 * (n + 2); omega⟩, rfl, ?_, hv2, a, ?_, hva, ?_⟩
    · show ((Pace.admit (Pace.tick p.st (v - 1).toNat) p.asks).clock : Int) < v
      rw [hst.2]; omega
    · show a ∈ (Pace.admit (Pace.tick p.st (v - 1).toNat) p.asks).A
      rw [hst.1]; exact haA
    · show ∀ z ∈ (Pace.admit (Pace.tick p.st (v - 1).toNat) p.asks).A, _
      rw [hst.1]; exact hle
  · rintro b v wr ⟨p, c, ⟨y, h1, h2, h3⟩, hB, ha, hv, hv2, a, haA, hva, hle⟩
    have hI : p.Inv := by obtain ⟨P, hM, hI, _⟩ := h1; exact hI
    have hb1 := hB.nw; have hb2 := hB.tk; have hb3 := hB.rf; have hb4 := hB.sn; have hb5 := hB.dr
    refine (pa_poll h1 (hTr h2) (by omega) (by omega) v 9 (by omega)).mono ?_
    rintro e w' ⟨r, rfl, n0, y', hP', hBA, hs, hn0⟩
    have hst : (Pace.admit (Pace.tick p.st v.toNat) p.asks).A = p.st.A ∧ (Pace.admit (Pace.tick p.st v.toNat) p.asks).clock = max p.st.clock v.toNat := by rw [ha]; exact ⟨rfl, rfl⟩
    have hdue : ∃ z, Pace.due (Pace.admit (Pace.tick p.st v.toNat) p.asks) = some z ∧ (z.at' : Int) = v := by
      unfold Pace.due
      rw [hst.1, hst.2]
      cases hbe : Pace.best p.st.A with
      | none => rw [Pace.best_none.1 hbe] at haA; cases haA
      | some z =>
        have k1 := hle z (Pace.best_some hbe).1
        have k2 := (Pace.best_some hbe).2 a haA
        refine ⟨z, ?_, by omega⟩
        simp only [Option.filter]
        rw [if_pos (by simp; omega)]
    obtain ⟨z, hd, hzv⟩ := hdue
    have hrel : (p.poll v.toNat (9 : Int).toNat).1 = (Pace.send (Pace.admit (Pace.tick p.st v.toNat) p.asks) z).1 :: (Pace.rel 8 (Pace.send (Pace.admit (Pace.tick p.st v.toNat) p.asks) z).2).1 := by
      show (Pace.rel (8 + 1) _).1 = _
      rw [Pace.rel, hd]
    rw [hrel] at hBA
    obtain ⟨g, cc, g2, o2, rfl, _, c1, _⟩ := ba_first hBA
    have hle8 := rel_le 8 (Pace.send (Pace.admit (Pace.tick p.st v.toNat) p.asks) z).2
    obtain ⟨y2, _, hfr, _⟩ := PX.step h2 h3 hP' hs
    refine ⟨g, _, cc, rfl, by omega, by omega, ?_, hfr⟩
    rw [c1, ← hzv]
    rfl
end Go.Proofs.YtogdekjklbbbiaaDoor

namespace Go.Proofs.YtogdekjklbbbiaaDoor
open Go.ChangeShapes Go.WideShapes Go.ChangeAt Go.RowKit
set_option linter.unusedSimpArgs false
set_option linter.unusedVariables false

/-- The lanes beside a pacer. -/
structure OC (w wr : World) (al : Option Addr) (m cl : Nat) (y : Lay) (gt sz : Nat) (l : List Pace.Ln) (V : Nat → Value) : Prop where
  fr : Fr w wr (fun _ => False)
  ow : ∀ k, y.own k → w.heap.size ≤ k
  ls : LS w wr al m cl gt sz l V y.own
  gl : gt < wr.heap.size
/-- What the law knows of them. -/
structure OP (p : Pace.PS) (c : Cn) (k ck tk rf : Nat) (l : List Pace.Ln) : Prop where
  cl : p.st.clock = ck
  bd : Bd p c k
  nw : 2 * p.newest ≤ k + p.st.fl.length
  oi : Pace.OI p.st l
  len : l.length = p.newest
  ta : c.taken = tk
  re : c.refused = rf
  rd : c.read = 0
  b0 : c.bad = 0
  sm : c.sent + c.dropped + Pace.waits p.st.fl = tk
  tg : ∀ z ∈ l, z.tags.length ≤ k
theorem fr_of {w w' : World} (h : Fr w w' (fun _ => False)) (O : Nat → Prop) : Fr w w' O := h.weak fun _ _ q => q.elim
theorem OC.next {w wr w' : World} {al : Option Addr} {m cl : Nat} {y y' : Lay} {gt sz : Nat} {l : List Pace.Ln} {V : Nat → Value} (h : OC w wr al m cl y gt sz l V) (hlt : ∀ k, y.own k → k < wr.heap.size) (ob : Obj) (hs : Stp (wr.alloc ob) w' y y') :
    OC w w' al m cl y' gt sz l V ∧ w'.heap[wr.heap.size]? = some ob ∧ wr.heap.size < w'.heap.size := by
  have hsz : (wr.alloc ob).heap.size = wr.heap.size + 1 := by simp
  have hls : LS w (wr.alloc ob) al m cl gt sz l V y.own := h.ls.kept ((Fr.refl wr _).alloc ob) (fun _ _ q => q)
  have hfs := h.fr.size
  have hs2 := hs.fr.size
  have hgl := h.gl
  refine ⟨⟨(h.fr.alloc ob).trans hs.fr fun k hk q => by have := h.ow k q; omega, fun k hk => ?_, hls.kept hs.fr fun k hk q => hs.own hk q, by omega⟩, ?_, by omega⟩
  · rcases Nat.lt_or_ge k (wr.alloc ob).heap.size with q | q
    · exact h.ow k (hs.own q hk)
    · omega
  · rw [hs.fr.blk wr.heap.size (by omega) fun q => by have := hlt _ q; omega]
    exact heap_alloc_new _ _
/-- Only lanes are touched. -/
theorem OC.lanes {w wr w' : World} {al al' : Option Addr} {m m' cl cl' : Nat} {y : Lay} {gt gt' sz sz' : Nat} {l l' : List Pace.Ln} {V V' : Nat → Value} (h : OC w wr al m cl y gt sz l V) {O : Nat → Prop} (hf : Fr wr w' O) (hO : ∀ k, O k → w.heap.size ≤ k) (hl : LS w w' al' m' cl' gt' sz' l' V' y.own) (hg : gt' < w'.heap.size) : OC w w' al' m' cl' y gt' sz' l' V' :=
  ⟨h.fr.trans hf fun k hk q => by have := hO k q; omega, h.ow, hl, hg⟩
theorem sent8 {s : Pace.St} (h : Pace.PI s []) (n : Nat) : ∀ q ∈ (Pace.rel n s).1, q.2.2.length ≤ 8 := by
  induction n generalizing s with
  | zero => intro q hq; cases hq
  | succ n ih =>
    unfold Pace.rel
    split
    · intro q hq; cases hq
    · rename_i a e
      obtain ⟨q1, q2⟩ := Pace.due_some e
      obtain ⟨x, hx, hxn, hlx, hk, hk2, hgot, hsent, hfl, h'⟩ := h.send (Pace.best_some q1).1 q2
      intro q hq
      rcases List.mem_cons.1 hq with rfl | hq
      · rw [hsent]
        have := (h.wf.F x hx).few
        show (x.pk.take a.k).length ≤ 8
        rw [List.length_take]; omega
      · exact ih h' q hq
set_option maxHeartbeats 1000000 in
/-- ended, all told. -/
theorem ended_any {w wr : World} {b n ck tk rf : Nat} {al : Option Addr} {m cl : Nat} {p : Pace.PS} {c : Cn} {y : Lay} {gt sz : Nat} {l : List Pace.Ln} {V : Nat → Value} (hP : PA wr b y p c) (hO : OC w wr al m cl y gt sz l V) (hQ : OP p c n ck tk rf l) (hn : n < 8796093022208) (hz : 0 < wr.heap.size) (hT : TabW wr) :
    Calls Tryd.prog 29 #[.pointer (some ⟨b, 0, none⟩), .slice al m cl, .int .i64 (tk : Int), .int .i64 (rf : Int)] wr fun e w' => e = .returned (.bool true) ∧ Fr w w' (fun _ => False) := by
  have hI := hP.inv
  have hb1 := hQ.bd.nw; have hb2 := hQ.bd.tk; have hb5 := hQ.bd.dr
  have hmn : m = p.newest := by rw [hO.ls.len]; exact hQ.len
  obtain ⟨Ls, hL0, hLk, hLe⟩ := close_lanes p.st.fl l hI.pi.wf.nums (fun x hx => by
    obtain ⟨z, h1, h2, h3, h4, h5, _⟩ := hQ.oi.fl x hx
    exact ⟨z, h1, h2, h3, h4, h5⟩) (fun i z hz hn => (hQ.oi.off i z hz hn).2)
  have hfew := clB_len p.st.fl
  have h8 := hI.few
  have hnum : ∀ q ∈ clB p.st.fl, 1 ≤ q.1 ∧ q.1 ≤ m ∧ q.2.1 = -1 ∧ 0 < q.2.2.length ∧ q.2.2.length ≤ 8 := fun q hq => by
    obtain ⟨h1, f, hf, h2, h3, h4⟩ := clB_mem hq
    have := hI.le f hf
    have := (hI.pi.wf.F f hf).few
    rw [h3] at this
    exact ⟨by omega, by omega, h1, h4, this⟩
  have hkeep : ∀ {w1 w2 : World}, LS w w1 al m cl gt sz l V y.own → Fr w1 w2 (fun _ => False) → LS w w2 al m cl gt sz l V y.own := fun h hf => h.kept (fr_of hf _) (fun _ _ q => q)
  have hgb : 0 < m → b ≠ gt := fun h0 e => (hO.ls.gF h0).1 (by rw [← e]; obtain ⟨P, hM, _⟩ := hP; exact hM.ow)
  refine ended_walk b gt m cl tk rf c.sent (c.dropped + totalI (clB p.st.fl)) al (bvOf (clB p.st.fl)) (fun k => ((clB p.st.fl).getD k btD).1 - 1) wr
    (fun w1 => PA w1 b y p c ∧ LS w w1 al m cl gt sz l V y.own ∧ Fr w w1 (fun _ => False) ∧ gt < w1.heap.size)
    (fun ab pb xb k w1 => PZ w1 b y { c with dropped := c.dropped + totalI (clB p.st.fl) } ∧ LS w w1 al m cl gt sz (Ls k) V y.own ∧ Fr w w1 (fun _ => False) ∧ BK w1 (clB p.st.fl) gt ab pb xb)
    (fun w1 => PZ w1 b y { c with dropped := c.dropped + totalI (clB p.st.fl) } ∧ Fr w w1 (fun _ => False)) (fun w1 => PZ w1 b y { c with dropped := c.dropped + totalI (clB p.st.fl) } ∧ Fr w w1 (fun _ => False)) (fun w1 => Fr w w1 (fun _ => False))
    (fun h0 => (hO.ls.al1 h0).1) (by omega) (by show (clB p.st.fl).length < 1000; omega) ?_ ?_ ?_ ?_ ?_ ?_ ?_ ?_ ?_ ?_ ?_ ?_ ?_
  · intro k hk
    obtain ⟨q, h1, h2, h3, h4, h5, _⟩ := bv_get hk
    obtain ⟨k1, k2, k3, k4, _⟩ := hnum q h2
    have e : (clB p.st.fl).getD k btD = q := by rw [List.getD, h1]; rfl
    show ((clB p.st.fl).getD k btD).1 - 1 < m ∧ _ = ((((clB p.st.fl).getD k btD).1 - 1 : Nat) : Int) + 1 ∧ _ ∧ _
    rw [e, h3, h4, h5]
    exact ⟨by omega, by omega, k4, k3⟩
  · intro k hk
    have hk' : k + 1 < (clB p.st.fl).length := hk
    obtain ⟨q, h1, h2, h3, _⟩ := bv_get (bs := clB p.st.fl) (k := k) (by omega)
    obtain ⟨q', h1', h2', h3', _⟩ := bv_get (bs := clB p.st.fl) (k := k + 1) hk'
    rw [h3, h3']
    have hpw := hI.rise.sublist (clB_nums p.st.fl)
    have := List.pairwise_iff_getElem.1 hpw k (k + 1) (by rw [List.length_map]; omega) (by rw [List.length_map]; omega) (by omega)
    simp only [List.getElem_map] at this
    have e1 := (List.getElem?_eq_some_iff.1 h1).2
    have e2 := (List.getElem?_eq_some_iff.1 h1').2
    rw [e1, e2] at this
    omega
  · have := clB_waits p.st.fl
    have := hQ.sm
    omega
  · have := hQ.ta; omega
  · refine (alive_any wr hz hT).mono ?_
    rintro e w' ⟨rfl, hf⟩
    exact ⟨rfl, hP.kept hf (fun _ _ q => q), hkeep hO.ls hf, hO.fr.trans hf fun _ _ q => q, Nat.lt_of_lt_of_le hO.gl hf.size⟩
  · rintro w1 ⟨h1, h2, h3, h4⟩
    refine (pa_close h1 (by omega)).mono ?_
    rintro e w' ⟨v, rfl, hZ, hBA, hs⟩
    obtain ⟨ab, cb, pb, xb, rfl, hBK⟩ := bk_of hBA gt h4
    refine ⟨ab, cb, pb, xb, rfl, hZ, by rw [hL0]; exact h2.kept hs.fr (fun _ _ q => q), h3.trans hs.fr fun k hk q => by have := hO.ow k q; omega, hBK⟩
  · rintro ab pb xb k w1 ⟨hZ, hLS, hf, hBK⟩ hk
    obtain ⟨q, h1, h2, h3, h4, h5, _⟩ := bv_get (bs := clB p.st.fl) (k := k) hk
    obtain ⟨a1, z, a2, a3, a4, a5, a6, z0, a7, a8⟩ := hLk k q h1
    have e : (clB p.st.fl).getD k btD = q := by rw [List.getD, h1]; rfl
    refine ⟨?_, ?_⟩
    · obtain ⟨g, o, e1, c0, c1, c2⟩ := hBK.st.row k hk
      have hk0 : 0 < (clB p.st.fl).length := Nat.lt_of_le_of_lt (Nat.zero_le _) hk
      exact ⟨g, o, e1, (hBK.ra g o e1 hk0).1, c0, c1, c2⟩
    · show w1.cell? ⟨gt, (((clB p.st.fl).getD k btD).1 - 1) * 4 + 3, none⟩ = _
      rw [e, ← a3]
      exact (hLS.c _ z a2).2.2.2.1
  · rintro ab pb xb k w1 ⟨hZ, hLS, hf, hBK⟩ hk
    obtain ⟨q, h1, h2, h3, h4, h5, h6⟩ := bv_get (bs := clB p.st.fl) (k := k) hk
    obtain ⟨a1, z, a2, a3, a4, a5, a6, z0, a7, a8⟩ := hLk k q h1
    obtain ⟨k1, k2, k3, k4, k5⟩ := hnum q h2
    have e : (clB p.st.fl).getD k btD = q := by rw [List.getD, h1]; rfl
    have hmem : z ∈ Ls k := List.mem_of_getElem? a2
    have hd : Fr w1 w1.drew (fun _ => False) := (Fr.refl w1 _).drew
    have hLSd : LS w w1.drew al m cl gt sz (Ls k) V y.own := hLS.kept (fr_of hd _) (fun _ _ q => q)
    have hbig : z.tags.length < 9000000000000000000 := by have := hQ.tg z0 a7; rw [a8] at this; omega
    show Calls Tryd.prog 27 #[.pointer (some ⟨gt, (((clB p.st.fl).getD k btD).1 - 1) * 4, none⟩), .slice (pb k) ((bvOf (clB p.st.fl)).ln k) (xb k)] w1.drew _
    rw [e, h5]
    refine (hLSd.told a2 hbig q.2.2 k5 (r := []) (by rw [List.append_nil]; exact a4) a5 (pb k) (xb k) (fun j hj => ?_)).mono ?_
    · obtain ⟨g, o, e1, c0, _⟩ := hBK.st.pk k j hk (by rw [h5]; exact hj)
      refine ⟨g, o, e1, (hBK.rp k g o hk e1).1, ?_⟩
      rw [← h6 j]; exact c0
    · rintro e' w' ⟨rfl, hL', hf'⟩
      have h0 : 0 < m := by omega
      have hBK' := hBK.kept (w' := w') ⟨hf'.os, hf'.tape, hf'.output, hf'.size, hf'.blk⟩
      refine ⟨rfl, ⟨hZ.kept (O := fun x => x = gt) ⟨hf'.os, hf'.tape, hf'.output, hf'.size, hf'.blk⟩ (fun x hx q => (hO.ls.gF h0).1 (by rw [← q]; exact hx)), by rw [a6]; exact hL', hf.trans (O' := fun x => x = gt) ⟨hf'.os, hf'.tape, hf'.output, hf'.size, hf'.blk⟩ fun x hx q => by have := (hO.ls.gF h0).2; omega, hBK'⟩, fun g o e1 => ?_⟩
      obtain ⟨g', o', e2, _, _, c2⟩ := hBK'.st.row k hk
      rw [e2] at e1
      injection e1 with e1
      injection e1 with e3 e4
      subst e3 e4
      rw [h5] at c2
      exact c2
  · rintro ab pb xb w1 ⟨hZ, hLS, hf, hBK⟩ i hi
    obtain ⟨z, hz'⟩ := hLS.get hi
    obtain ⟨c0, c1, _, _, c4⟩ := hLS.c i z hz'
    obtain ⟨ta, tc, hv⟩ := row_len c4
    have := hLe i z hz'
    exact ⟨ta, z.tags.length, tc, by rw [c0, hv], by rw [c1, this]⟩
  · rintro ab pb xb w1 j ⟨hZ, hLS, hf, hBK⟩
    have hd : Fr w1 (w1.drewN j) (fun _ => False) := (Fr.refl w1 _).drewN j
    exact ⟨hZ.kept hd (fun _ _ q => q), hLS.kept (fr_of hd _) (fun _ _ q => q), hf.drewN j, hBK.kept (fr_of hd _)⟩
  · rintro ab pb xb w1 ⟨hZ, hLS, hf, hBK⟩
    refine (pz_close hZ).mono ?_
    rintro e w' ⟨rfl, hZ', hf'⟩
    exact ⟨rfl, hZ', hf.trans hf' fun _ _ q => q⟩
  · rintro w1 ⟨hZ, hf⟩
    refine (pz_counts hZ).mono ?_
    rintro e w' ⟨rfl, hZ', hf'⟩
    refine ⟨?_, hZ', hf.trans hf' fun _ _ q => q⟩
    show Ending.returned (.agg #[.int .i64 (c.taken : Int), .int .i64 (c.refused : Int), .int .i64 (c.sent : Int), .int .i64 ((c.dropped + totalI (clB p.st.fl) : Nat) : Int), .int .i64 (c.read : Int), .int .i64 (c.bad : Int)]) = _
    rw [hQ.ta, hQ.re, hQ.rd, hQ.b0]; rfl
  · rintro w1 ob ⟨hZ, hf⟩
    have hd : Fr w1 (w1.alloc ob) (fun _ => False) := (Fr.refl w1 _).alloc ob
    refine (next_closed b (w1.alloc ob) (hZ.kept hd (fun _ _ q => q)).c15).mono ?_
    rintro e w' ⟨rfl, rfl⟩
    exact ⟨rfl, hf.alloc ob, heap_alloc_new _ _⟩
end Go.Proofs.YtogdekjklbbbiaaDoor

namespace Go.Proofs.YtogdekjklbbbiaaDoor
open Go.ChangeShapes Go.WideShapes Go.ChangeAt Go.RowKit
set_option linter.unusedSimpArgs false
set_option linter.unusedVariables false

theorem addR_ok {p : Pace.PS} {r b : Int} (h : addR p r b = 0) : Pace.allowed r b ∧ p.st.fl.length ≠ 8 := by
  unfold addR at h
  by_cases ha : Pace.allowed r b
  · rw [if_pos ha] at h
    refine ⟨ha, fun e => ?_⟩
    rw [if_pos e] at h; omega
  · rw [if_neg ha] at h; omega
theorem enqR_ok {p : Pace.PS} {f l : Int} (h : enqR p f l = 0) : ∃ x, lookI p.st.fl f = some x := by
  unfold enqR at h
  split at h
  · omega
  · rename_i x hx; exact ⟨x, hx⟩
theorem gone_len {l : List Pace.Fl} (h : (l.map (·.num)).Nodup) (f : Nat) : l.length ≤ (Pace.gone l f).length + 1 := by
  induction l with
  | nil => simp
  | cons x l ih =>
    simp only [List.map_cons, List.nodup_cons] at h
    have h1 := ih h.2
    by_cases e : x.num = f
    · have e2 : Pace.gone (x :: l) f = Pace.gone l f := by simp [Pace.gone, e]
      have e3 : Pace.gone l f = l := by
        unfold Pace.gone
        rw [List.filter_eq_self]
        intro y hy
        have : y.num ≠ f := fun q => h.1 (List.mem_map.2 ⟨y, hy, q.trans e.symm⟩)
        simpa using this
      rw [e2, e3, List.length_cons]
      exact Nat.le_refl _
    · have e2 : Pace.gone (x :: l) f = x :: Pace.gone l f := by simp [Pace.gone, e]
      rw [e2, List.length_cons, List.length_cons]
      omega
theorem tags_set {l : List Pace.Ln} {i k : Nat} {z : Pace.Ln} (h : ∀ y ∈ l, y.tags.length ≤ k) (hz : z.tags.length ≤ k) : ∀ y ∈ l.set i z, y.tags.length ≤ k := fun y hy => by
  rcases List.mem_or_eq_of_mem_set hy with q | q
  · exact h y q
  · rw [q]; exact hz
/-- sent, of the batches of a Poll. -/
theorem sent_any {w wr : World} {b k ck : Nat} {al : Option Addr} {m cl : Nat} {p : Pace.PS} {c : Cn} {y : Lay} {gt sz : Nat} {l l' : List Pace.Ln} {V : Nat → Value} {bs : List Bt} {n0 : Nat} {N : Nat → Prop} {v : Value} (hP : PA wr b y p c) (hO : OC w wr al m cl y gt sz l V) (hS : Pace.Sents ck l bs l') (hB : BAi wr n0 N (bs.map up) v) (hg : gt < n0) (hm : m < 8796093022208) (h64 : bs.length ≤ 64) (h8 : ∀ q ∈ bs, q.2.2.length ≤ 8) (htg : ∀ z ∈ l, z.tags.length < 9000000000000000000) :
    Calls Tryd.prog 28 #[.slice al m cl, v, .int .i64 (ck : Int)] wr fun e w' => e = .returned (.bool true) ∧ PA w' b y p c ∧ OC w w' al m cl y gt sz l' V := by
  obtain ⟨Ls, hL0, hLe, hLk, hLn, hLt⟩ := sents_at hS
  obtain ⟨ab, cb, pb, xb, rfl, hBK⟩ := bk_of hB gt hg
  have hlen : (bs.map up).length = bs.length := List.length_map _
  have hq : ∀ k, k < (bs.map up).length → ∃ q z, bs[k]? = some q ∧ q ∈ bs ∧ (bs.map up).getD k btD = up q ∧ Pace.SOk ck (Ls k) q z ∧ Ls (k + 1) = Pace.tell (Ls k) q z := fun k hk => by
    rw [hlen] at hk
    obtain ⟨z, h1, h2⟩ := hLk k bs[k] (List.getElem?_eq_getElem hk)
    exact ⟨bs[k], z, List.getElem?_eq_getElem hk, List.getElem_mem hk, by rw [List.getD, List.getElem?_map, List.getElem?_eq_getElem hk]; rfl, h1, h2⟩
  have hml : m = l.length := hO.ls.len
  refine (sent_walk gt m cl al (bvOf (bs.map up)) ab cb pb xb (ck : Int) (fun k => ((bs.map up).getD k btD).1 - 1) wr
    (fun k w1 => PA w1 b y p c ∧ LS w w1 al m cl gt sz (Ls k) V y.own ∧ Fr w w1 (fun _ => False) ∧ BK w1 (bs.map up) gt ab pb xb ∧ gt < w1.heap.size)
    (fun h0 => (hO.ls.al1 h0).1) hm (by show (bs.map up).length < 1000; omega) (fun k hk => ?_) ⟨hP, by rw [hL0]; exact hO.ls, hO.fr, hBK, hO.gl⟩ ?_ ?_).mono ?_
  · obtain ⟨q, z, h1, h2, h3, h4, h5⟩ := hq k hk
    have hlt := (List.getElem?_eq_some_iff.1 h4.at').1
    rw [hLn] at hlt
    have hn := h4.num
    show ((bs.map up).getD k btD).1 - 1 < m ∧ (((bs.map up).getD k btD).1 : Int) = ((((bs.map up).getD k btD).1 - 1 : Nat) : Int) + 1 ∧ 0 < ((bs.map up).getD k btD).2.2.length ∧ ((bs.map up).getD k btD).2.1 ≤ (ck : Int)
    rw [h3]
    refine ⟨by show q.1 - 1 < m; omega, by show (q.1 : Int) = ((q.1 - 1 : Nat) : Int) + 1; omega, List.length_pos_iff.2 h4.pos, ?_⟩
    show (q.2.1 : Int) ≤ _
    have := h4.ck
    omega
  · rintro k w1 ⟨hP1, hL1, hf1, hB1, hg1⟩ hk
    obtain ⟨q, z, h1, h2, h3, h4, h5⟩ := hq k hk
    obtain ⟨c0, c1, c2, c3, c4⟩ := hL1.c _ z h4.at'
    have hlt := (List.getElem?_eq_some_iff.1 h4.at').1
    rw [hLn] at hlt
    obtain ⟨g, o, e1, d0, d1, d2⟩ := hB1.st.row k hk
    have hk0 : 0 < (bs.map up).length := Nat.lt_of_le_of_lt (Nat.zero_le _) hk
    refine ⟨⟨g, o, e1, (hB1.ra g o e1 hk0).1, d0, d1, d2⟩, ?_, ⟨(z.last : Int), ?_, ?_⟩, hL1.fz (by omega) _⟩
    · show w1.cell? ⟨gt, (((bs.map up).getD k btD).1 - 1) * 4 + 3, none⟩ = _
      rw [h3, ← h4.gone]; exact c3
    · show w1.cell? ⟨gt, (((bs.map up).getD k btD).1 - 1) * 4 + 2, none⟩ = _
      rw [h3]; exact c2
    · show (z.last : Int) ≤ ((bs.map up).getD k btD).2.1
      rw [h3]
      show (z.last : Int) ≤ (q.2.1 : Int)
      have := h4.last
      omega
  · rintro k w1 W ⟨hP1, hL1, hf1, hB1, hg1⟩ hk hch hcl hsh
    obtain ⟨q, z, h1, h2, h3, h4, h5⟩ := hq k hk
    obtain ⟨c0, c1, c2, c3, c4⟩ := hL1.c _ z h4.at'
    have hlt := (List.getElem?_eq_some_iff.1 h4.at').1
    have hlt' := hlt
    rw [hLn] at hlt
    have h0 : 0 < m := by omega
    have e1 : ((bs.map up).getD k btD).1 - 1 = q.1 - 1 := by rw [h3]; rfl
    have e2 : (bvOf (bs.map up)).st k = (q.2.1 : Int) := by show ((bs.map up).getD k btD).2.1 = _; rw [h3]; rfl
    have e3 : (bvOf (bs.map up)).ln k = q.2.2.length := by show ((bs.map up).getD k btD).2.2.length = _; rw [h3]; rfl
    simp only [e1] at hch hcl ⊢
    rw [e2] at hcl
    have hFW : Fr w1 W (fun x => x = gt) := hch.fr2 fun x o q => q.1
    have hLW := hL1.lane h4.at' (z' := { z with last := q.2.1 }) rfl (hch.mono fun x o r => ⟨r.1, .inr (.inl r.2)⟩) hsh (by rw [hch.cell gt _ fun r => by omega]; exact c1) hcl (by rw [hch.cell gt _ fun r => by omega]; exact c3)
    have hBW := hB1.kept hFW
    obtain ⟨z0, hz0, hzt⟩ := hLt k z (List.mem_of_getElem? h4.at')
    obtain ⟨r, hr⟩ := h4.tags
    rw [e3]
    refine (hLW.told (a := q.1 - 1) (z := { z with last := q.2.1 }) (by rw [List.getElem?_set, if_pos rfl, if_pos hlt']) (by show z.tags.length < _; rw [← hzt]; exact htg z0 hz0) q.2.2 (h8 q h2) (r := r) hr h4.told (pb k) (xb k) (fun j hj => ?_)).mono ?_
    · obtain ⟨g, o, e4, d0, _⟩ := hBW.st.pk k j hk (by rw [e3]; exact hj)
      refine ⟨g, o, e4, (hBW.rp k g o hk e4).1, ?_⟩
      have e5 : (bvOf (bs.map up)).tg k j = (q.2.2.getD j (0, 0)).1 := by show (((bs.map up).getD k btD).2.2.getD j (0, 0)).1 = _; rw [h3]; rfl
      rw [← e5]; exact d0
    · rintro e w' ⟨rfl, hL', hf'⟩
      have hft : Fr w1 w' (fun x => x = gt) := hFW.trans hf' fun x _ r => r
      have hB' := hB1.kept hft
      refine ⟨rfl, ⟨hP1.kept hft (fun x hx r => (hL1.gF h0).1 (by rw [← r]; exact hx)), ?_, hf1.trans hft fun x hx r => by have := (hL1.gF h0).2; omega, hB', Nat.lt_of_lt_of_le hg1 hft.size⟩, fun g o e4 => ?_⟩
      · rw [h5]
        have e6 : Pace.tell (Ls k) q z = ((Ls k).set (q.1 - 1) { z with last := q.2.1 }).set (q.1 - 1) { z with told := z.told + q.2.2.length, last := q.2.1 } := by rw [List.set_set]; rfl
        rw [e6]; exact hL'
      · obtain ⟨g', o', e7, _, _, d2⟩ := hB'.st.row k hk
        rw [e7] at e4
        injection e4 with e4
        injection e4 with e8 e9
        subst e8 e9
        rw [e3] at d2
        exact d2
  · rintro e w' ⟨rfl, hP1, hL1, hf1, hB1, hg1⟩
    have e5 : Ls (bvOf (bs.map up)).n = l' := by show Ls (bs.map up).length = l'; rw [hlen]; exact hLe
    rw [e5] at hL1
    exact ⟨rfl, hP1, hf1, hO.ow, hL1, hg1⟩
end Go.Proofs.YtogdekjklbbbiaaDoor
