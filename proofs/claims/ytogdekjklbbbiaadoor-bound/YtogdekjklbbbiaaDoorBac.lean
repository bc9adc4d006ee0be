import Derived.Test.YtogdekjklbbbiaaDoorGac
import Derived.Laws.Rows
set_option maxRecDepth 100000
namespace Go.Proofs.YtogdekjklbbbiaaDoor
open Go.ChangeShapes Go.WideShapes Go.ChangeAt Go.RowKit
set_option linter.unusedSimpArgs false
set_option linter.unusedVariables false

/-- A row of integers. -/
structure RW (w : World) (g n : Nat) (f : Nat → Int) : Prop where
  lt : g < w.heap.size
  fz : ∀ o, w.frozen? ⟨g, o, none⟩ = false
  cell : ∀ i, i < n → w.cell? ⟨g, i, none⟩ = some (.int .i64 (f i))
theorem blk_lt {w w' : World} {g : Nat} (h : g < w.heap.size) (hk : w'.heap[g]? = w.heap[g]?) : g < w'.heap.size := by
  rw [Array.getElem?_eq_getElem h] at hk
  exact (Array.getElem?_eq_some_iff.1 hk).1
theorem RW.kept {w w' : World} {g n : Nat} {f : Nat → Int} (h : RW w g n f) (hk : w'.heap[g]? = w.heap[g]?) : RW w' g n f :=
  ⟨blk_lt h.lt hk, fun o => (frozen_of hk o).trans (h.fz o), fun i hi => (World.cell?_of_block (w := w) (a := ⟨g, i, none⟩) hk).trans (h.cell i hi)⟩
theorem RW.congr {w : World} {g n : Nat} {f f' : Nat → Int} (h : RW w g n f) (he : ∀ i, i < n → f i = f' i) : RW w g n f' := ⟨h.lt, h.fz, fun i hi => by rw [← he i hi]; exact h.cell i hi⟩
theorem RW.set {w : World} {g n : Nat} {f : Nat → Int} (h : RW w g n f) {i : Nat} (hi : i < n) (v : Int) : RW (w.setCell ⟨g, i, none⟩ (.int .i64 v)) g n (fun j => if j = i then v else f j) := by
  have hch : Ch w (w.setCell ⟨g, i, none⟩ (.int .i64 v)) (fun a o => a = g ∧ o = i) := (Ch.refl w _).setCell ⟨rfl, rfl⟩ _
  refine ⟨by rw [hch.size]; exact h.lt, fun o => by rw [hch.fz]; exact h.fz o, fun j hj => ?_⟩
  by_cases e : j = i
  · subst e
    simp only [if_true]
    exact World.cell?_setCell_same' _ _ _ (by rw [h.cell j hj]; rfl)
  · simp only [if_neg e]
    rw [hch.cell g j fun q => e q.2]; exact h.cell j hj
theorem set_blk (w : World) (b o : Nat) (v : Value) {g : Nat} (h : g ≠ b) : (w.setCell ⟨b, o, none⟩ v).heap[g]? = w.heap[g]? := Below.heap_setCell _ _ _ _ h
/-- The tracks. -/
structure TK (w : World) (gt n sz : Nat) (nr nb : Nat → Int) : Prop where
  lt : 0 < n → gt < w.heap.size
  fz : ∀ o, 0 < n → w.frozen? ⟨gt, o, none⟩ = false
  c1 : ∀ i, i < n → ∃ v, w.cell? ⟨gt, i * 6 + 1, none⟩ = some v
  c2 : ∀ i, i < n → ∃ v, w.cell? ⟨gt, i * 6 + 2, none⟩ = some v
  c3 : ∀ i, i < n → w.cell? ⟨gt, i * 6 + 3, none⟩ = some (.int .i64 (nr i))
  c4 : ∀ i, i < n → w.cell? ⟨gt, i * 6 + 4, none⟩ = some (.int .i64 (nb i))
  sh : 0 < n → ∃ cur, w.heap[gt]? = some (.cells cur 105) ∧ cur.size = sz
theorem TK.kept {w w' : World} {gt n sz : Nat} {nr nb : Nat → Int} (h : TK w gt n sz nr nb) (hk : 0 < n → w'.heap[gt]? = w.heap[gt]?) : TK w' gt n sz nr nb := by
  have hc : ∀ i o, i < n → w'.cell? ⟨gt, o, none⟩ = w.cell? ⟨gt, o, none⟩ := fun i o hi => World.cell?_of_block (w := w) (a := ⟨gt, o, none⟩) (hk (by omega))
  exact ⟨fun h0 => blk_lt (h.lt h0) (hk h0), fun o h0 => (frozen_of (hk h0) o).trans (h.fz o h0), fun i hi => by rw [hc i _ hi]; exact h.c1 i hi, fun i hi => by rw [hc i _ hi]; exact h.c2 i hi, fun i hi => by rw [hc i _ hi]; exact h.c3 i hi, fun i hi => by rw [hc i _ hi]; exact h.c4 i hi, fun h0 => by rw [hk h0]; exact h.sh h0⟩
theorem some_set {w : World} {a b : Addr} {v u : Value} (h : w.cell? b = some u) : ∃ u', (w.setCell a v).cell? b = some u' := by
  have := isSome_set w a b v
  rw [h] at this
  cases hz : (w.setCell a v).cell? b with
  | none => rw [hz] at this; cases this
  | some z => exact ⟨z, rfl⟩
theorem sh_set {w : World} {g o sz : Nat} {v : Value} (h : ∃ cur, w.heap[g]? = some (.cells cur 105) ∧ cur.size = sz) : ∃ cur, (w.setCell ⟨g, o, none⟩ v).heap[g]? = some (.cells cur 105) ∧ cur.size = sz := by
  obtain ⟨cur, h1, h2⟩ := h
  exact ⟨_, heap_setCell_same w g o cur 105 v h1, by simpa using h2⟩
/-- Rate and burst are written. -/
theorem TK.set {w : World} {gt n sz : Nat} {nr nb : Nat → Int} (h : TK w gt n sz nr nb) (i r : Nat) (hr : r = 1 ∨ r = 2) (v : Value) : TK (w.setCell ⟨gt, i * 6 + r, none⟩ v) gt n sz nr nb := by
  have hch : Ch w (w.setCell ⟨gt, i * 6 + r, none⟩ v) (fun a o => a = gt ∧ o = i * 6 + r) := (Ch.refl w _).setCell ⟨rfl, rfl⟩ _
  refine ⟨fun h0 => by rw [hch.size]; exact h.lt h0, fun o h0 => by rw [hch.fz]; exact h.fz o h0, fun j hj => ?_, fun j hj => ?_, fun j hj => ?_, fun j hj => ?_, fun h0 => sh_set (h.sh h0)⟩
  · obtain ⟨u, hu⟩ := h.c1 j hj; exact some_set hu
  · obtain ⟨u, hu⟩ := h.c2 j hj; exact some_set hu
  · rw [hch.cell gt _ fun q => by omega]; exact h.c3 j hj
  · rw [hch.cell gt _ fun q => by omega]; exact h.c4 j hj
/-- What was asked for is written. -/
theorem TK.put {w : World} {gt n sz : Nat} {nr nb : Nat → Int} (h : TK w gt n sz nr nb) {i : Nat} (hi : i < n) (a b : Int) : TK ((w.setCell ⟨gt, i * 6 + 3, none⟩ (.int .i64 a)).setCell ⟨gt, i * 6 + 4, none⟩ (.int .i64 b)) gt n sz (fun j => if j = i then a else nr j) (fun j => if j = i then b else nb j) := by
  have hch : Ch w ((w.setCell ⟨gt, i * 6 + 3, none⟩ (.int .i64 a)).setCell ⟨gt, i * 6 + 4, none⟩ (.int .i64 b)) (fun a o => a = gt ∧ (o = i * 6 + 3 ∨ o = i * 6 + 4)) := ((Ch.refl w _).setCell ⟨rfl, .inl rfl⟩ _).setCell ⟨rfl, .inr rfl⟩ _
  refine ⟨fun h0 => by rw [hch.size]; exact h.lt h0, fun o h0 => by rw [hch.fz]; exact h.fz o h0, fun j hj => ?_, fun j hj => ?_, fun j hj => ?_, fun j hj => ?_, fun h0 => sh_set (sh_set (h.sh h0))⟩
  · rw [hch.cell gt _ fun q => by omega]; exact h.c1 j hj
  · rw [hch.cell gt _ fun q => by omega]; exact h.c2 j hj
  · by_cases e : j = i
    · subst e
      simp only [if_true]
      rw [World.cell?_setCell_other _ _ _ _ (by intro q; injection q with q1 q2; omega)]
      exact World.cell?_setCell_same' _ _ _ (by rw [h.c3 j hj]; rfl)
    · simp only [if_neg e]
      rw [hch.cell gt _ fun q => by omega]; exact h.c3 j hj
  · by_cases e : j = i
    · subst e
      simp only [if_true]
      refine World.cell?_setCell_same' _ _ _ ?_
      rw [World.cell?_setCell_other _ _ _ _ (by intro q; injection q with q1 q2; omega), h.c4 j hj]; rfl
    · simp only [if_neg e]
      rw [hch.cell gt _ fun q => by omega]; exact h.c4 j hj
/-- Four rows behind one block. -/
structure S4 (w : World) (S : Nat) (v : Nat → Value) (x : Nat → List Value) (T : Nat → Nat) : Prop where
  lt : S < w.heap.size
  fz : ∀ o, w.frozen? ⟨S, o, none⟩ = false
  c : ∀ i, i < 4 → w.cell? ⟨S, i, none⟩ = some (v i)
  r : ∀ i, i < 4 → w.ownsRow 0 (if i = 0 then 3 else 33) 1 (v i) (T i) (x i)
  s : ∀ i, i < 4 → (v i).ownBlock ≠ some S
  d : ∀ i j, i < 4 → j < 4 → i ≠ j → ∀ g, (v i).ownBlock = some g → (v j).ownBlock ≠ some g
theorem S4.kept {w w' : World} {S : Nat} {v : Nat → Value} {x : Nat → List Value} {T : Nat → Nat} (h : S4 w S v x T) (hS : w'.heap[S]? = w.heap[S]?) (hk : ∀ i, i < 4 → ∀ g, (v i).ownBlock = some g → w'.heap[g]? = w.heap[g]?) : S4 w' S v x T :=
  ⟨blk_lt h.lt hS, fun o => (frozen_of hS o).trans (h.fz o), fun i hi => (World.cell?_of_block (w := w) (a := ⟨S, i, none⟩) hS).trans (h.c i hi), fun i hi => row_kept0 (h.r i hi) (hk i hi), h.s, h.d⟩
theorem S4.congr {w : World} {S : Nat} {v v' : Nat → Value} {x x' : Nat → List Value} {T T' : Nat → Nat} (h : S4 w S v x T) (hv : ∀ i, i < 4 → v i = v' i) (hx : ∀ i, i < 4 → x i = x' i) (hT : ∀ i, i < 4 → T i = T' i) : S4 w S v' x' T' :=
  ⟨h.lt, h.fz, fun i hi => by rw [← hv i hi]; exact h.c i hi, fun i hi => by rw [← hv i hi, ← hx i hi, ← hT i hi]; exact h.r i hi, fun i hi => by rw [← hv i hi]; exact h.s i hi, fun i j hi hj hij => by rw [← hv i hi, ← hv j hj]; exact h.d i j hi hj hij⟩
/-- Whose the rows are. -/
def S4.own (S : Nat) (v : Nat → Value) (k : Nat) : Prop := k = S ∨ ∃ i, i < 4 ∧ (v i).ownBlock = some k
theorem S4.step {w w2 : World} {S : Nat} {v : Nat → Value} {x : Nat → List Value} {T : Nat → Nat} (h : S4 w S v x T) {i : Nat} (hi : i < 4) (ob : Obj) {v' u : Value} (hown : w2.ownsRow 0 (if i = 0 then 3 else 33) 1 v' (T i + 1) (x i ++ [u]))
    (hg : (v'.ownBlock = (v i).ownBlock ∧ (w.alloc ob).grownBy w2 (v i).ownBlock) ∨ (v'.ownBlock = some (w.alloc ob).heap.size ∧ (w.alloc ob).grownBy w2 none)) :
    w2.cell? ⟨S, i, none⟩ = some (v i) ∧ w2.frozen? ⟨S, i, none⟩ = false ∧ S4 (w2.setCell ⟨S, i, none⟩ v') S (upd v i v') (upd x i (x i ++ [u])) (upd T i (T i + 1)) ∧ Fr w (w2.setCell ⟨S, i, none⟩ v') (fun k => k = S ∨ (v i).ownBlock = some k) ∧ (∀ k, v'.ownBlock = some k → (v i).ownBlock = some k ∨ w.heap.size ≤ k) ∧ (∀ o, w2.cell? ⟨S, o, none⟩ = w.cell? ⟨S, o, none⟩) := by
  have hsz : w.heap.size < (w.alloc ob).heap.size := by simp
  have hb : ∀ k, k < w.heap.size → (v i).ownBlock ≠ some k → w2.heap[k]? = w.heap[k]? := fun k hk hn => by
    rw [app_blk hg (by omega) (fun e => absurd e hn), Below.heap_alloc _ _ _ hk]
  have hsz2 := (app_size hg).2.2.2
  have hS := hb S h.lt (h.s i hi)
  have hnew : ∀ k, v'.ownBlock = some k → (v i).ownBlock = some k ∨ w.heap.size ≤ k := fun k hk => by
    rcases hg with ⟨q, _⟩ | ⟨q, _⟩
    · exact .inl (by rw [← q]; exact hk)
    · rw [q] at hk; injection hk with hk; exact .inr (by omega)
  have hch : Ch w2 (w2.setCell ⟨S, i, none⟩ v') (fun a o => a = S ∧ o = i) := (Ch.refl w2 _).setCell ⟨rfl, rfl⟩ _
  have hc2 : ∀ o, w2.cell? ⟨S, o, none⟩ = w.cell? ⟨S, o, none⟩ := fun o => World.cell?_of_block (w := w) (a := ⟨S, o, none⟩) hS
  have hvS : v'.ownBlock ≠ some S := fun e => by
    rcases hnew S e with q | q
    · exact h.s i hi q
    · have := h.lt; omega
  have hold : ∀ j, j < 4 → ∀ g, (v j).ownBlock = some g → g < w.heap.size := fun j hj g hg' => ((h.r j hj).lt g hg').2
  refine ⟨by rw [hc2]; exact h.c i hi, (frozen_of hS i).trans (h.fz i), ⟨?_, ?_, ?_, ?_, ?_, ?_⟩, ?_, hnew, hc2⟩
  · rw [hch.size]; exact blk_lt h.lt hS
  · intro o; rw [hch.fz]; exact (frozen_of hS o).trans (h.fz o)
  · intro j hj
    by_cases e : j = i
    · subst e
      rw [upd_same]
      exact World.cell?_setCell_same' _ _ _ (by rw [hc2, h.c j hj]; rfl)
    · rw [upd, if_neg e, hch.cell S j fun q => e q.2, hc2]; exact h.c j hj
  · intro j hj
    by_cases e : j = i
    · subst e
      rw [upd_same, upd_same, upd_same]
      exact row_kept0 hown fun g hg' => set_blk _ _ _ _ fun e => hvS (by rw [← e]; exact hg')
    · simp only [upd, if_neg e]
      refine row_kept0 (h.r j hj) fun g hg' => ?_
      rw [set_blk _ _ _ _ fun e => h.s j hj (by rw [← e]; exact hg')]
      exact hb g (hold j hj g hg') fun q => h.d j i hj hi e g hg' q
  · intro j hj
    by_cases e : j = i
    · subst e; rw [upd_same]; exact hvS
    · rw [upd, if_neg e]; exact h.s j hj
  · intro a b ha hb' hab g hg'
    by_cases e1 : a = i
    · subst e1
      rw [upd_same] at hg'
      rw [upd, if_neg (by omega)]
      rcases hnew g hg' with q | q
      · exact h.d a b ha hb' hab g q
      · exact fun q2 => by have := hold b hb' g q2; omega
    · rw [upd, if_neg e1] at hg'
      by_cases e2 : b = i
      · subst e2
        rw [upd_same]
        intro q2
        rcases hnew g q2 with q | q
        · exact h.d a b ha hb' hab g hg' q
        · have := hold a ha g hg'; omega
      · rw [upd, if_neg e2]; exact h.d a b ha hb' hab g hg'
  · refine ⟨?_, ?_, ?_, ?_, fun k hk hn => ?_⟩
    · exact (app_size hg).1
    · exact (app_size hg).2.1
    · exact (app_size hg).2.2.1
    · rw [hch.size]; omega
    · rw [set_blk _ _ _ _ fun e => hn (.inl e)]
      exact hb k hk fun e => hn (.inr e)
/-- The bytes of the first packets; of the batches of a flow. -/
def sumP (le : Nat → Int) : Nat → Int
  | 0 => 0
  | j + 1 => sumP le j + le j
def sumB (B : BV) (f : Nat) : Nat → Int
  | 0 => 0
  | i + 1 => sumB B f i + if B.fl i = (f : Int) + 1 then sumP (B.le i) (B.ln i) else 0
def sumY (B : BV) (i j f : Nat) : Int := sumB B f i + if B.fl i = (f : Int) + 1 then sumP (B.le i) j else 0
theorem sumP_le {le : Nat → Int} (n : Nat) (h : ∀ j, j < n → 0 ≤ le j ∧ le j ≤ 1500) : ∀ j, j ≤ n → 0 ≤ sumP le j ∧ sumP le j ≤ 1500 * j := by
  intro j
  induction j with
  | zero => intro _; simp [sumP]
  | succ j ih =>
    intro hj
    have h1 := ih (by omega)
    have h2 := h j (by omega)
    simp only [sumP]
    omega
theorem sumB_le {B : BV} (h : ∀ i j, i < B.n → j < B.ln i → 0 ≤ B.le i j ∧ B.le i j ≤ 1500) (hl : ∀ i, i < B.n → B.ln i ≤ 8) (f : Nat) : ∀ i, i ≤ B.n → 0 ≤ sumB B f i ∧ sumB B f i ≤ 12000 * i := by
  intro i
  induction i with
  | zero => intro _; simp [sumB]
  | succ i ih =>
    intro hi
    have h1 := ih (by omega)
    have h2 := sumP_le (B.ln i) (fun j hj => h i j (by omega) hj) (B.ln i) (Nat.le_refl _)
    have h3 := hl i (by omega)
    simp only [sumB]
    split <;> omega
theorem sumY_le {B : BV} (h : ∀ i j, i < B.n → j < B.ln i → 0 ≤ B.le i j ∧ B.le i j ≤ 1500) (hl : ∀ i, i < B.n → B.ln i ≤ 8) (f : Nat) {i j : Nat} (hi : i < B.n) (hj : j ≤ B.ln i) : 0 ≤ sumY B i j f ∧ sumY B i j f ≤ 12000 * i + 12000 := by
  have h1 := sumB_le h hl f i (by omega)
  have h2 := sumP_le (B.ln i) (fun j hj => h i j hi hj) j hj
  have h3 := hl i hi
  unfold sumY
  split <;> omega
end Go.Proofs.YtogdekjklbbbiaaDoor

namespace Go.Proofs.YtogdekjklbbbiaaDoor
open Go.ChangeShapes Go.WideShapes Go.ChangeAt Go.RowKit
set_option linter.unusedSimpArgs false
set_option linter.unusedVariables false

/-- How far an append of one element reaches. -/
theorem nsc_le (old : Nat) : Builtin.nextslicecap (old + 1) old ≤ old + (old + 768) / 4 + 256 := by
  unfold Builtin.nextslicecap
  split
  · omega
  · split
    · omega
    · rw [growBy_four]
      repeat' split
      all_goals omega
/-- An append of one element, to a row as long as may be. -/
theorem run_append1 {P : Program} (w : World) (t ty e : TypeId) (i : TypeInfo) (z : Value) (size bytes : Nat) (ht : P.underlying t = some (.slice e)) (hi : P.info? e = some i) (hz : i.zero = some z)
    (hsize : i.size = size) (hby : i.bytes = bytes) (hzs : z.cells.size = size)
    (v : Value) (n : Nat) (xs : List Value) (hown : w.ownsRow 0 e size v n xs)
    (a : Addr) (c : Nat) (news : List Value) (hl : news.length = size) (hnews : ∀ j u, news[j]? = some u → w.cell? (a.add j) = some u) (h1 : ∀ u ∈ news, u.oneCell' = true)
    (h63 : n + 1 ≤ maxLen) (hfit : (n + (n + 768) / 4 + 256) * bytes ≤ 281474976710656) :
    ∃ v' w', (Builtin.append_ #[t, t] ty #[v, .slice (some a) 1 c]).run P w = .ok v' w' ∧ w'.ownsRow 0 e size v' (n + 1) (xs ++ news) ∧
      ((v'.ownBlock = v.ownBlock ∧ w.grownBy w' v.ownBlock) ∨ (v'.ownBlock = some w.heap.size ∧ w.grownBy w' none)) := by
  subst hsize
  subst hby
  have hsmall : n + 1 ≤ 9223372036854775807 := by simp only [maxLen] at h63; omega
  have hl1 : news.length = 1 * i.size := by rw [Nat.one_mul]; exact hl
  have hlen : (xs ++ news).length = (n + 1) * i.size := by rw [List.length_append, hown.1, hl, Nat.add_mul, Nat.one_mul]
  have fresh : ∀ (old : Nat), w.drew.alloc (.cells (xs.toArray ++ news.toArray ++ Builtin.zeroCells z.cells (grownCap w (n + 1) old e - (n + 1))) e) = w.drew.alloc (.cells (xs.toArray ++ news.toArray ++ Builtin.zeroCells z.cells (grownCap w (n + 1) old e - (n + 1))) e) →
      (w.drew.alloc (.cells (xs.toArray ++ news.toArray ++ Builtin.zeroCells z.cells (grownCap w (n + 1) old e - (n + 1))) e)).ownsRow 0 e i.size (.slice (some ⟨w.heap.size, 0, none⟩) (n + 1) (grownCap w (n + 1) old e)) (n + 1) (xs ++ news) ∧
      w.grownBy (w.drew.alloc (.cells (xs.toArray ++ news.toArray ++ Builtin.zeroCells z.cells (grownCap w (n + 1) old e - (n + 1))) e)) none := by
    intro old _
    have hge := grownCap_ge w (n + 1) old e
    refine ⟨⟨hlen, .inr ⟨w.heap.size, _, _, rfl, Nat.zero_le _, heap_alloc_new w.drew _, hge, grownCap_le_maxLen w (n + 1) old e h63, ?_, ?_⟩⟩, ⟨rfl, rfl, rfl, by simp, fun k hk _ => Below.heap_alloc w.drew _ _ hk⟩⟩
    · simp only [Array.size_append, List.size_toArray, size_zeroCells, hzs, hown.1, hl1, ← Nat.add_mul]
      congr 1
      omega
    · simp only [Array.toList_append, List.append_assoc]
      rw [← List.append_assoc, ← hlen]
      exact List.take_left
  rcases hown.2 with ⟨rfl, rfl⟩ | ⟨g, cap, cur, rfl, hbg, hg, hnc, hcm, hcs, htake⟩
  · have hx : xs = [] := List.eq_nil_of_length_eq_zero (by simpa using hown.1)
    subst hx
    have hr := run_append_nil (P := P) w t ty e i z ht hi hz a 1 c news hl1 hnews (by omega) (by omega) (by omega)
    have hgr := fresh 0 rfl
    simp only [Nat.zero_add, List.nil_append, Array.empty_append] at hgr ⊢
    exact ⟨_, _, hr, hgr.1, .inr ⟨rfl, hgr.2⟩⟩
  · by_cases hroom : n + 1 ≤ cap
    · have hf : n * i.size + news.length ≤ cur.size := by rw [hl1, hcs, ← Nat.add_mul]; exact Nat.mul_le_mul_right _ hroom
      have hr := run_append_room (P := P) w t ty e i ht hi g n cap cur hg a 1 c news hl1 hnews h1 hroom hf
      refine ⟨_, _, hr, ⟨hlen, .inr ⟨g, cap, _, rfl, hbg, setRow_heap w g cur _ e _ hg, hroom, hcm, ?_, ?_⟩⟩, .inl ⟨rfl, ⟨rfl, rfl, rfl, by simp, fun k _ hk => setRow_other w g k _ (fun e => hk (by simp [Value.ownBlock, e]))⟩⟩⟩
      · simp only [List.size_toArray, List.length_append, List.length_take, List.length_drop, Array.length_toList]
        omega
      · rw [htake, ← hlen]
        exact List.take_left
    · have hcn : cap = n := by omega
      subst hcn
      have hb : Builtin.nextslicecap (cap + 1) cap * i.bytes ≤ 281474976710656 := Nat.le_trans (Nat.mul_le_mul_right _ (nsc_le cap)) hfit
      have hr := run_append_grow (P := P) w t ty e i z ht hi hz ⟨g, 0, none⟩ cap cap xs hown.1 (hown.cells (g := g) rfl) a 1 c news hl1 hnews (by omega) (by omega) hb
      have hgr := fresh cap rfl
      exact ⟨_, _, hr, hgr.1, .inr ⟨rfl, hgr.2⟩⟩
theorem wpList_append1 {P : Program} {w : World} {ops : Array Oper} {rest : List Oper} {o : Oper} {a : Act} {Q : Exit → Act → World → Prop} (hgd : o.guard = none) (s x : Operand) (t : TypeId)
    (ho : o.op = .call { callee := .builtin .append, args := #[s, x], argTypes := #[t, t] })
    (e : TypeId) (i : TypeInfo) (z : Value) (size bytes : Nat) (ht : P.underlying t = some (.slice e)) (hi : P.info? e = some i) (hz : i.zero = some z)
    (hsize : i.size = size) (hby : i.bytes = bytes) (hzs : z.cells.size = size)
    (v : Value) (n : Nat) (xs : List Value) (hs : a.eval s = v) (hown : w.ownsRow 0 e size v n xs)
    (ad : Addr) (c : Nat) (news : List Value) (hx : a.eval x = .slice (some ad) 1 c) (hl : news.length = size) (hnews : ∀ j u, news[j]? = some u → w.cell? (ad.add j) = some u) (h1 : ∀ u ∈ news, u.oneCell' = true)
    (h63 : n + 1 ≤ maxLen) (hfit : (n + (n + 768) / 4 + 256) * bytes ≤ 281474976710656)
    (h : ∀ v' w', w'.ownsRow 0 e size v' (n + 1) (xs ++ news) → ((v'.ownBlock = v.ownBlock ∧ w.grownBy w' v.ownBlock) ∨ (v'.ownBlock = some w.heap.size ∧ w.grownBy w' none)) → wpList P ops Q rest (a.put o.dst v') w') :
    wpList P ops Q (o :: rest) a w := by
  refine wpList_plain hgd fun K hK => ?_
  obtain ⟨v', w', hr, h2, h3⟩ := run_append1 (P := P) w t o.type e i z size bytes ht hi hz hsize hby hzs v n xs hown ad c news hl hnews h1 h63 hfit
  unfold Oper.wp
  simp [execOp, ho, resolve, invoke, builtin, hs, hx, hr, Result.andThen]
  exact hK _ _ (h v' w' h2 h3)
theorem info3 : (Tryd.prog.info? 3).map (fun i => (i.zero, i.size, i.bytes)) = some (some (.int .i64 0), 1, 8) := by kernel_rfl
theorem info33 : (Tryd.prog.info? 33).map (fun i => (i.zero, i.size, i.bytes)) = some (some (.slice none 0 0), 1, 24) := by kernel_rfl
theorem info105 : (Tryd.prog.info? 105).map (fun i => (i.zero, i.size, i.bytes)) = some (some (.agg #[.int .i64 0, .int .i64 0, .int .i64 0, .int .i64 0, .int .i64 0, .bool false]), 6, 48) := by kernel_rfl
theorem rw_of_made {w : World} {g n : Nat} (h : w.ownsRow 0 3 1 (.slice (some ⟨g, 0, none⟩) n n) n (madeCells (Value.int .i64 0).cells (n * 1)).toList) : RW w g n (fun _ => 0) := by
  rcases h.2 with ⟨q, _⟩ | ⟨g', cap, cur, q, h1, h2, h3, h4, h5, h6⟩
  · cases q
  · injection q with q1 q2 q3
    injection q1 with q1
    injection q1 with q1
    subst q1
    refine ⟨(Array.getElem?_eq_some_iff.1 h2).1, fun o => by simp [World.frozen?, h2], fun i hi => ?_⟩
    have hc := h.cells (g := g) rfl i (.int .i64 0) (by simp [madeCells, Value.cells, hi, Nat.mod_one])
    rw [add_lit, Nat.zero_add] at hc
    exact hc
end Go.Proofs.YtogdekjklbbbiaaDoor

namespace Go.Proofs.YtogdekjklbbbiaaDoor
open Go.ChangeShapes Go.WideShapes Go.ChangeAt Go.RowKit
set_option linter.unusedSimpArgs false
set_option linter.unusedVariables false

/-- While a Poll is written down. -/
structure QP (w wr : World) (gt gR gB gY n sz : Nat) (nr nb f1 f2 f3 : Nat → Int) : Prop where
  fr : Fr w wr (fun x => x = gt ∧ 0 < n)
  tk : TK wr gt n sz nr nb
  r : RW wr gR n f1
  b : RW wr gB n f2
  y : RW wr gY n f3
theorem QP.drewN {w wr : World} {gt gR gB gY n sz : Nat} {nr nb f1 f2 f3 : Nat → Int} (h : QP w wr gt gR gB gY n sz nr nb f1 f2 f3) (m : Nat) : QP w (wr.drewN m) gt gR gB gY n sz nr nb f1 f2 f3 :=
  ⟨h.fr.drewN m, h.tk.kept fun _ => rfl, h.r.kept rfl, h.b.kept rfl, h.y.kept rfl⟩
theorem QP.drew {w wr : World} {gt gR gB gY n sz : Nat} {nr nb f1 f2 f3 : Nat → Int} (h : QP w wr gt gR gB gY n sz nr nb f1 f2 f3) : QP w wr.drew gt gR gB gY n sz nr nb f1 f2 f3 :=
  ⟨h.fr.drew, h.tk.kept fun _ => rfl, h.r.kept rfl, h.b.kept rfl, h.y.kept rfl⟩
/-- The blocks are apart. -/
structure QD (w : World) (gt gR gB gY n : Nat) : Prop where
  t : 0 < n → gt < w.heap.size
  r : w.heap.size ≤ gR
  b : gR < gB
  y : gB < gY
theorem QP.setT {w wr : World} {gt gR gB gY n sz : Nat} {nr nb f1 f2 f3 : Nat → Int} (h : QP w wr gt gR gB gY n sz nr nb f1 f2 f3) (hd : QD w gt gR gB gY n) (h0 : 0 < n) (i r : Nat) (hr : r = 1 ∨ r = 2) (v : Value) : QP w (wr.setCell ⟨gt, i * 6 + r, none⟩ v) gt gR gB gY n sz nr nb f1 f2 f3 := by
  have := hd.t h0; have := hd.r; have := hd.b; have := hd.y
  have hch : Ch wr (wr.setCell ⟨gt, i * 6 + r, none⟩ v) (fun a o => a = gt ∧ o = i * 6 + r) := (Ch.refl wr _).setCell ⟨rfl, rfl⟩ _
  refine ⟨⟨hch.os.trans h.fr.os, hch.tape.trans h.fr.tape, hch.output.trans h.fr.output, by rw [hch.size]; exact h.fr.size, fun k hk hn => ?_⟩, h.tk.set i r hr v, h.r.kept (set_blk _ _ _ _ (by omega)), h.b.kept (set_blk _ _ _ _ (by omega)), h.y.kept (set_blk _ _ _ _ (by omega))⟩
  rw [set_blk _ _ _ _ fun e => hn ⟨e, h0⟩]; exact h.fr.blk k hk hn
theorem QP.setR {w wr : World} {gt gR gB gY n sz : Nat} {nr nb f1 f2 f3 : Nat → Int} (h : QP w wr gt gR gB gY n sz nr nb f1 f2 f3) (hd : QD w gt gR gB gY n) {i : Nat} (hi : i < n) (v : Int) : QP w (wr.setCell ⟨gR, i, none⟩ (.int .i64 v)) gt gR gB gY n sz nr nb (fun j => if j = i then v else f1 j) f2 f3 := by
  have := hd.t (by omega); have := hd.r; have := hd.b; have := hd.y
  have hch : Ch wr (wr.setCell ⟨gR, i, none⟩ (.int .i64 v)) (fun a o => a = gR ∧ o = i) := (Ch.refl wr _).setCell ⟨rfl, rfl⟩ _
  refine ⟨⟨hch.os.trans h.fr.os, hch.tape.trans h.fr.tape, hch.output.trans h.fr.output, by rw [hch.size]; exact h.fr.size, fun k hk hn => ?_⟩, h.tk.kept fun _ => set_blk _ _ _ _ (by omega), h.r.set hi v, h.b.kept (set_blk _ _ _ _ (by omega)), h.y.kept (set_blk _ _ _ _ (by omega))⟩
  rw [set_blk _ _ _ _ (by omega)]; exact h.fr.blk k hk hn
theorem QP.setB {w wr : World} {gt gR gB gY n sz : Nat} {nr nb f1 f2 f3 : Nat → Int} (h : QP w wr gt gR gB gY n sz nr nb f1 f2 f3) (hd : QD w gt gR gB gY n) {i : Nat} (hi : i < n) (v : Int) : QP w (wr.setCell ⟨gB, i, none⟩ (.int .i64 v)) gt gR gB gY n sz nr nb f1 (fun j => if j = i then v else f2 j) f3 := by
  have := hd.t (by omega); have := hd.r; have := hd.b; have := hd.y
  have hch : Ch wr (wr.setCell ⟨gB, i, none⟩ (.int .i64 v)) (fun a o => a = gB ∧ o = i) := (Ch.refl wr _).setCell ⟨rfl, rfl⟩ _
  refine ⟨⟨hch.os.trans h.fr.os, hch.tape.trans h.fr.tape, hch.output.trans h.fr.output, by rw [hch.size]; exact h.fr.size, fun k hk hn => ?_⟩, h.tk.kept fun _ => set_blk _ _ _ _ (by omega), h.r.kept (set_blk _ _ _ _ (by omega)), h.b.set hi v, h.y.kept (set_blk _ _ _ _ (by omega))⟩
  rw [set_blk _ _ _ _ (by omega)]; exact h.fr.blk k hk hn
theorem QP.setY {w wr : World} {gt gR gB gY n sz : Nat} {nr nb f1 f2 f3 : Nat → Int} (h : QP w wr gt gR gB gY n sz nr nb f1 f2 f3) (hd : QD w gt gR gB gY n) {i : Nat} (hi : i < n) (v : Int) : QP w (wr.setCell ⟨gY, i, none⟩ (.int .i64 v)) gt gR gB gY n sz nr nb f1 f2 (fun j => if j = i then v else f3 j) := by
  have := hd.t (by omega); have := hd.r; have := hd.b; have := hd.y
  have hch : Ch wr (wr.setCell ⟨gY, i, none⟩ (.int .i64 v)) (fun a o => a = gY ∧ o = i) := (Ch.refl wr _).setCell ⟨rfl, rfl⟩ _
  refine ⟨⟨hch.os.trans h.fr.os, hch.tape.trans h.fr.tape, hch.output.trans h.fr.output, by rw [hch.size]; exact h.fr.size, fun k hk hn => ?_⟩, h.tk.kept fun _ => set_blk _ _ _ _ (by omega), h.r.kept (set_blk _ _ _ _ (by omega)), h.b.kept (set_blk _ _ _ _ (by omega)), h.y.set hi v⟩
  rw [set_blk _ _ _ _ (by omega)]; exact h.fr.blk k hk hn
theorem QP.congr {w wr : World} {gt gR gB gY n sz : Nat} {nr nb f1 f2 f3 f1' f2' f3' : Nat → Int} (h : QP w wr gt gR gB gY n sz nr nb f1 f2 f3) (h1 : ∀ i, i < n → f1 i = f1' i) (h2 : ∀ i, i < n → f2 i = f2' i) (h3 : ∀ i, i < n → f3 i = f3' i) : QP w wr gt gR gB gY n sz nr nb f1' f2' f3' :=
  ⟨h.fr, h.tk, h.r.congr h1, h.b.congr h2, h.y.congr h3⟩
end Go.Proofs.YtogdekjklbbbiaaDoor

namespace Go.Proofs.YtogdekjklbbbiaaDoor
open Go.ChangeShapes Go.WideShapes Go.ChangeAt Go.RowKit
set_option linter.unusedSimpArgs false
set_option linter.unusedVariables false

theorem made_fr {w w' : World} (h : w.grownBy w' none) (O : Nat → Prop) : Fr w w' O := ⟨h.os, h.tape, h.output, h.size, fun k hk _ => h.block k hk (by simp)⟩
/-- Behind the three makes. -/
theorem qp_made {w w4 w5 w6 : World} {gt n sz : Nat} {nr nb : Nat → Int} (hTK : TK w gt n sz nr nb) (h4 : w4.ownsRow 0 3 1 (.slice (some ⟨w.heap.size, 0, none⟩) n n) n (madeCells (Value.int .i64 0).cells (n * 1)).toList) (g4 : w.grownBy w4 none) (h5 : w5.ownsRow 0 3 1 (.slice (some ⟨w4.heap.size, 0, none⟩) n n) n (madeCells (Value.int .i64 0).cells (n * 1)).toList) (g5 : w4.grownBy w5 none) (h6 : w6.ownsRow 0 3 1 (.slice (some ⟨w5.heap.size, 0, none⟩) n n) n (madeCells (Value.int .i64 0).cells (n * 1)).toList) (g6 : w5.grownBy w6 none) :
    QD w gt w.heap.size w4.heap.size w5.heap.size n ∧ QP w w6 gt w.heap.size w4.heap.size w5.heap.size n sz nr nb (fun i => if i < 0 then nr i else 0) (fun i => if i < 0 then nb i else 0) (fun _ => 0) := by
  have r4 := rw_of_made h4; have r5 := rw_of_made h5; have r6 := rw_of_made h6
  have f4 := made_fr g4 (fun _ => False); have f5 := made_fr g5 (fun _ => False); have f6 := made_fr g6 (fun _ => False)
  have l4 := r4.lt; have l5 := r5.lt; have l6 := r6.lt
  refine ⟨⟨hTK.lt, Nat.le_refl _, l4, l5⟩, ⟨?_, ?_, ?_, ?_, ?_⟩⟩
  · exact ⟨by rw [f6.os, f5.os, f4.os], by rw [f6.tape, f5.tape, f4.tape], by rw [f6.output, f5.output, f4.output], by have := f4.size; have := f5.size; have := f6.size; omega, fun k hk _ => by rw [f6.blk k (by have := f4.size; have := f5.size; omega) (fun q => q), f5.blk k (by have := f4.size; omega) (fun q => q), f4.blk k hk (fun q => q)]⟩
  · refine hTK.kept fun h0 => ?_
    have hk := hTK.lt h0
    rw [f6.blk _ (by have := f4.size; have := f5.size; omega) (fun q => q), f5.blk _ (by have := f4.size; omega) (fun q => q), f4.blk _ hk (fun q => q)]
  · refine ((r4.kept (w' := w5) ?_).kept ?_).congr fun i _ => rfl
    · exact f5.blk _ l4 fun q => q
    · exact f6.blk _ (by have := f5.size; omega) fun q => q
  · exact (r5.kept (f6.blk _ l5 fun q => q)).congr fun i _ => rfl
  · exact r6
theorem sumY_next {B : BV} {i : Nat} (f : Nat) : sumY B (i + 1) 0 f = sumY B i (B.ln i) f := by
  show sumB B f (i + 1) + (if _ then sumP _ 0 else 0) = _
  simp [sumY, sumB, sumP]
theorem sumY_step {B : BV} {i j f0 : Nat} (hf : B.fl i = (f0 : Int) + 1) (f : Nat) : (if f = f0 then sumY B i j f0 + B.le i j else sumY B i j f) = sumY B i (j + 1) f := by
  by_cases e : f = f0
  · subst e
    rw [if_pos rfl]
    unfold sumY
    rw [if_pos hf, if_pos hf]
    simp only [sumP]; omega
  · rw [if_neg e]
    unfold sumY
    rw [if_neg (by omega), if_neg (by omega)]
def sA : Value → Option Addr | .slice a _ _ => a | _ => none
def sC : Value → Nat | .slice _ _ c => c | _ => 0
theorem row_is {w : World} {n0 e sz n : Nat} {v : Value} {xs : List Value} (h : w.ownsRow n0 e sz v n xs) : v = .slice (sA v) n (sC v) := by
  rcases h.2 with ⟨q, q2⟩ | ⟨g, cap, cur, q, _⟩
  · rw [q, q2]; rfl
  · rw [q]; rfl
theorem cell_one_set (w : World) (a : Addr) (v x : Value) (t : TypeId) : ∀ j u, [x][j]? = some u → ((w.setCell a v).alloc (.cells #[x] t)).cell? ((⟨w.heap.size, 0, none⟩ : Addr).add j) = some u := by
  have h := cell_one_new (w.setCell a v) x t
  rw [show (w.setCell a v).heap.size = w.heap.size by simp] at h
  exact h
set_option maxHeartbeats 4000000 in
/-- polled: its three loops; what is behind them is left open. -/
theorem polled_walk (S gt n sz cl T : Nat) (al : Option Addr) (B : BV) (ab : Option Addr) (cb : Nat) (pb : Nat → Option Addr) (xb : Nat → Nat) (ck : Int) (nr nb : Nat → Int) (v : Nat → Value) (x : Nat → List Value) (w : World)
    (hn : n < 8796093022208) (hT : T < 8796093022208) (hal : 0 < n → al = some ⟨gt, 0, none⟩) (hBn : B.n ≤ 64) (hBl : ∀ i, i < B.n → 0 < B.ln i ∧ B.ln i ≤ 8) (hBe : ∀ i j, i < B.n → j < B.ln i → 0 ≤ B.le i j ∧ B.le i j ≤ 1500) (hBf : ∀ i, i < B.n → ∃ f, f < n ∧ B.fl i = (f : Int) + 1)
    (hBS : BS w B ab pb xb) (hTK : TK w gt n sz nr nb) (hSR : S4 w S v x (fun _ => T)) (hgS : 0 < n → ¬ S4.own S v gt) (hbg : ∀ g o, ab = some ⟨g, o, none⟩ → 0 < B.n → g ≠ gt ∧ g < w.heap.size) (hpg : ∀ i, i < B.n → ∀ g o, pb i = some ⟨g, o, none⟩ → g ≠ gt ∧ g < w.heap.size) :
    Calls Tryd.prog 43 #[.pointer (some ⟨S, 0, none⟩), .slice al n cl, .slice ab B.n cb, .int .i64 ck] w fun e w' => e = .returned (.bool true) ∧ ∃ v' gR gB gY, S4 w' S v' (fun i => x i ++ [if i = 0 then .int .i64 ck else if i = 1 then .slice (some ⟨gR, 0, none⟩) n n else if i = 2 then .slice (some ⟨gB, 0, none⟩) n n else .slice (some ⟨gY, 0, none⟩) n n]) (fun _ => T + 1) ∧
      RW w' gR n nr ∧ RW w' gB n nb ∧ RW w' gY n (fun f => sumB B f B.n) ∧ TK w' gt n sz nr nb ∧ Fr w w' (fun k => S4.own S v k ∨ (k = gt ∧ 0 < n)) ∧ (∀ k, S4.own S v' k → S4.own S v k ∨ (w.heap.size ≤ k ∧ k ≠ gR ∧ k ≠ gB ∧ k ≠ gY)) ∧ w.heap.size ≤ gR ∧ w.heap.size ≤ gB ∧ w.heap.size ≤ gY := by
  obtain ⟨i1, hj, hy0, hy1, hy2⟩ := info_parts info3
  obtain ⟨i2, hk2, hz0, hz1, hz2⟩ := info_parts info33
  have HAL := hide hal; have HBl := hide hBl; have HBe := hide hBe; have HBf := hide hBf; have HBS := hide hBS; have HTK := hide hTK; have HSR := hide hSR; have HgS := hide hgS; have Hbg := hide hbg; have Hpg := hide hpg
  clear hal hBl hBe hBf hBS hTK hSR hgS hbg hpg
  go_enter Tryd.func43, Tryd.ntmps43
  go_wp2_with (first | (at_make; refine wpList_make_full _ rfl _ _ 33 rfl 0 3 i1 (.int .i64 0) 1 Tryd.underlying33 hj hy0 hy1 .i64 .i64 _ _ n rfl rfl rfl rfl (by rw [hy2]; omega) (by unfold maxLen; omega) (Nat.zero_le _) ?_; intro w4 hown4 hgr4; have HM := hide (And.intro hown4 hgr4); clear hown4 hgr4))
  rename_i wa HMa wb HMb Kx ax
  have hqq := qp_made (unhide HTK) (unhide HMa).1 (unhide HMa).2 (unhide HMb).1 (unhide HMb).2 (unhide HM).1 (unhide HM).2
  obtain ⟨gR, hgR⟩ : ∃ g, g = w.heap.size := ⟨_, rfl⟩
  obtain ⟨gB, hgB⟩ : ∃ g, g = wa.heap.size := ⟨_, rfl⟩
  obtain ⟨gY, hgY⟩ : ∃ g, g = wb.heap.size := ⟨_, rfl⟩
  rw [← hgR, ← hgB, ← hgY] at hqq
  rw [← hgR, ← hgB, ← hgY]
  have HGR := hide hgR
  clear HMa HMb HM hgR hgB hgY
  obtain ⟨hQD, hQP⟩ := hqq
  have HQP := hide hQP
  have hd1 := hQD.r; have hd2 := hQD.b; have hd3 := hQD.y
  clear hQP
  go_loopg [12] n (fun gk i wr => ∃ k : Nat, i = .int .i64 (k : Int) ∧ gk = n - k ∧ k ≤ n ∧ QP w wr gt gR gB gY n sz nr nb (fun i => if i < k then nr i else 0) (fun i => if i < k then nb i else 0) (fun _ => 0))
  case atStart => exact ⟨0, rfl, rfl, Nat.zero_le _, unhide HQP⟩
  case round =>
    obtain ⟨k, hu, hgk, hkn, hq⟩ := hrel
    rw [hu]
    clear hu HQP
    have HG := hide hgk; have HQP := hide hq
    clear hgk
    by_cases hk : k < n
    · have hki : (k : Int) < (n : Int) := by omega
      have hk0 : (0 : Int) ≤ (k : Int) := by omega
      obtain ⟨u1, t1⟩ := hq.tk.c1 k hk
      obtain ⟨u2, t2⟩ := hq.tk.c2 k hk
      have t3 := hq.tk.c3 k hk
      have t4 := hq.tk.c4 k hk
      have tz1 := hq.tk.fz (k * 6 + 1) (by omega)
      have tz2 := hq.tk.fz (k * 6 + 2) (by omega)
      have r1 := hq.r.cell k hk
      have rz := hq.r.fz k
      have b1 := hq.b.cell k hk
      have bz := hq.b.fz k
      have hgt := hQD.t (by omega)
      have n1 : gR ≠ gt := by omega
      have n2 : gB ≠ gt := by omega
      have n3 : gB ≠ gR := by omega
      have n4 : gt ≠ gR := by omega
      have n5 : gt ≠ gB := by omega
      have n6 : gR ≠ gB := by omega
      obtain rfl := unhide HAL (by omega)
      clear hq
      go_wp2_with fail
      go_roundg (n - (k + 1))
      case measure => rw [unhide HG]; omega
      case rel =>
        refine ⟨k + 1, by go_num, rfl, by omega, ?_⟩
        refine QP.congr (((((unhide HQP).setT hQD (by omega) k 1 (.inl rfl) _).setT hQD (by omega) k 2 (.inr rfl) _).setR hQD hk _).setB hQD hk _) (fun i hi => ?_) (fun i hi => ?_) (fun i hi => rfl)
        · by_cases e : i = k
          · rw [if_pos e, if_pos (by omega), e]
          · rw [if_neg e]
            by_cases e2 : i < k
            · rw [if_pos e2, if_pos (by omega)]
            · rw [if_neg e2, if_neg (by omega)]
        · by_cases e : i = k
          · rw [if_pos e, if_pos (by omega), e]
          · rw [if_neg e]
            by_cases e2 : i < k
            · rw [if_pos e2, if_pos (by omega)]
            · rw [if_neg e2, if_neg (by omega)]
    · have hki : ¬ (k : Int) < (n : Int) := by omega
      have HQ2 : Hid (QP w wr gt gR gB gY n sz nr nb nr nb (sumY B 0 0)) := hq.congr (fun i hi => if_pos (by omega)) (fun i hi => if_pos (by omega)) (fun i hi => by simp [sumY, sumB, sumP])
      clear hq HQP HG hki hkn
      go_wp2_with fail
      go_loopg [13] B.n (fun gk i wr => ∃ k : Nat, i = .int .i64 (k : Int) ∧ gk = B.n - k ∧ k ≤ B.n ∧ QP w wr gt gR gB gY n sz nr nb nr nb (sumY B k 0))
      case atStart => exact ⟨0, rfl, rfl, Nat.zero_le _, unhide HQ2⟩
      case round =>
        obtain ⟨k, hu, hgk, hkn, hq⟩ := hrel
        rw [hu]
        clear hu HQ2
        have HG := hide hgk; have HQP := hide hq
        clear hgk
        by_cases hk : k < B.n
        · have hki : (k : Int) < (B.n : Int) := by omega
          have hk0 : (0 : Int) ≤ (k : Int) := by omega
          obtain ⟨ga, oa, ha, a0, _, a2⟩ := (unhide HBS).row k hk
          obtain ⟨q1, q2⟩ := unhide Hbg ga oa ha (by omega)
          have hak : wr.heap[ga]? = w.heap[ga]? := hq.fr.blk ga q2 fun q => q1 q.1
          rw [← World.cell?_of_block (w := w) (w' := wr) (a := ⟨ga, oa + k * 3, none⟩) hak] at a0
          rw [← World.cell?_of_block (w := w) (w' := wr) (a := ⟨ga, oa + k * 3 + 2, none⟩) hak] at a2
          obtain ⟨f, hf, hfe⟩ := unhide HBf k hk
          obtain ⟨hl0, hl8⟩ := unhide HBl k hk
          rw [hfe] at a0
          have hf1 : decide ((f : Int) + 1 < 1) = false := decide_eq_false (by omega)
          have hf2 : decide ((n : Int) < (f : Int) + 1) = false := decide_eq_false (by omega)
          have hf3 : ((B.ln k : Int) == 0) = false := by simp; omega
          subst ha
          have HA2 := hide a2
          clear hq hak
          go_wp2_with fail
          go_loopg [14] (B.ln k) (fun gk i wr => ∃ j : Nat, i = .int .i64 (j : Int) ∧ gk = B.ln k - j ∧ j ≤ B.ln k ∧ QP w wr gt gR gB gY n sz nr nb nr nb (sumY B k j))
          case atStart => exact ⟨0, rfl, rfl, Nat.zero_le _, unhide HQP⟩
          case round =>
            obtain ⟨j, hu, hgj, hjn, hq⟩ := hrel
            rw [hu]
            clear hu a0 a2
            have HGJ := hide hgj; have HQ3 := hide hq
            clear hgj
            obtain ⟨ga', oa', ha', a0, _, a2⟩ := (unhide HBS).row k hk
            injection ha' with ha'
            injection ha' with ea eo _
            subst ea eo
            have hak : wr.heap[ga]? = w.heap[ga]? := hq.fr.blk ga q2 fun q => q1 q.1
            rw [← World.cell?_of_block (w := w) (w' := wr) (a := ⟨ga, oa + k * 3, none⟩) hak, hfe] at a0
            rw [← World.cell?_of_block (w := w) (w' := wr) (a := ⟨ga, oa + k * 3 + 2, none⟩) hak] at a2
            by_cases hj : j < B.ln k
            · have hji : (j : Int) < (B.ln k : Int) := by omega
              have hj0 : (0 : Int) ≤ (j : Int) := by omega
              obtain ⟨g2, o2, hp2, d0, d1⟩ := (unhide HBS).pk k j hk hj
              obtain ⟨r1, r2⟩ := unhide Hpg k hk g2 o2 hp2
              have hbk2 : wr.heap[g2]? = w.heap[g2]? := hq.fr.blk g2 r2 fun q => r1 q.1
              rw [← World.cell?_of_block (w := w) (w' := wr) (a := ⟨g2, o2 + j * 2 + 1, none⟩) hbk2] at d1
              rw [hp2] at a2
              have y1 := hq.y.cell f hf
              have yz := hq.y.fz f
              obtain ⟨e1, e2⟩ := unhide HBe k j hk hj
              obtain ⟨e3, e4⟩ := sumY_le (unhide HBe) (fun i hi => (unhide HBl i hi).2) f hk hjn
              have hff : (f : Int) < (n : Int) := by omega
              have hf0 : (0 : Int) ≤ (f : Int) := by omega
              have hk64 : (k : Int) < 64 := by omega
              obtain ⟨yy, hyy⟩ : ∃ z, sumY B k j f = z := ⟨_, rfl⟩
              obtain ⟨ll, hll⟩ : ∃ z, B.le k j = z := ⟨_, rfl⟩
              rw [hyy] at y1 e3 e4
              rw [hll] at d1 e1 e2
              have HYY := hide hyy; have HLL := hide hll
              clear hq hak hp2 hbk2 d0 hyy hll
              go_wp2_with fail
              go_region
              all_goals
                go_wp2_with fail
                go_roundg (B.ln k - (j + 1))
                case measure => rw [unhide HGJ]; omega
                case rel =>
                  refine ⟨j + 1, by go_num, rfl, by omega, ?_⟩
                  have hst := fun (z : World) (hz : QP w z gt gR gB gY n sz nr nb nr nb (sumY B k j)) => (hz.setY hQD hf (sumY B k j f + B.le k j)).congr (fun _ _ => rfl) (fun _ _ => rfl) (fun i _ => sumY_step hfe i)
                  rw [unhide HYY, unhide HLL] at hst
                  first
                    | exact hst _ (unhide HQ3)
                    | exact hst _ ((unhide HQ3).drew)
                    | exact hst _ ((unhide HQ3).drewN _)
                    | exact (hst _ (unhide HQ3)).drew
                    | exact (hst _ (unhide HQ3)).drewN _
            · have hji : ¬ (j : Int) < (B.ln k : Int) := by omega
              have hjk : j = B.ln k := by omega
              subst hjk
              clear hq hak
              go_wp2_with fail
              go_roundg (B.n - (k + 1))
              case measure => rw [unhide HG]; omega
              case rel => exact ⟨k + 1, by go_num, rfl, by omega, (unhide HQ3).congr (fun _ _ => rfl) (fun _ _ => rfl) (fun i _ => (sumY_next i).symm)⟩
        · have hki : ¬ (k : Int) < (B.n : Int) := by omega
          have hkB : k = B.n := by omega
          have hns : ∀ g, S4.own S v g → g < w.heap.size := fun g q => by
            rcases q with q | ⟨i, hi, q⟩
            · rw [q]; exact (unhide HSR).lt
            · exact (((unhide HSR).r i hi).lt g q).2
          have hkeep : ∀ g, S4.own S v g → wr.heap[g]? = w.heap[g]? := fun g q => hq.fr.blk g (hns g q) fun e => unhide HgS e.2 (by rw [← e.1]; exact q)
          have HS0 : Hid (S4 wr S (fun i => .slice (sA (v i)) T (sC (v i))) x (fun _ => T)) := ((unhide HSR).kept (hkeep S (.inl rfl)) fun i hi g hg => hkeep g (.inr ⟨i, hi, hg⟩)).congr (fun i hi => row_is ((unhide HSR).r i hi)) (fun _ _ => rfl) (fun _ _ => rfl)
          have HNS := hide hns
          have c0 : wr.cell? ⟨S, 0, none⟩ = some (.slice (sA (v 0)) T (sC (v 0))) := (unhide HS0).c 0 (by omega)
          clear hq hns hkeep
          go_wp2_with (first | (at_builtin; refine wpList_append1 rfl _ _ 33 rfl 3 i1 (.int .i64 0) 1 8 Tryd.underlying33 hj hy0 hy1 hy2 rfl (.slice (sA (v 0)) T (sC (v 0))) T (x 0) rfl (((unhide HS0).r 0 (by omega)).alloc _) _ _ [.int .i64 ck] rfl rfl (cell_one_new _ _ _) (by simp [Value.oneCell']) (by unfold maxLen; omega) (by omega) ?_; intro u0 w0 ho0 hg0; obtain ⟨g0, q0, hu0, _, _, _, _, _⟩ := row_shape ho0 (by omega); subst hu0; obtain ⟨p01, p02, p03, p04, p05, p06⟩ := (unhide HS0).step (i := 0) (by omega) _ ho0 hg0; have n0 : w0.cell? ⟨S, 0, none⟩ = some (.slice (sA (v 0)) T (sC (v 0))) := p01; have HS1 := hide p03; have HF0 := hide p04; have HN0 := hide p05; have m0 : w0.cell? ⟨S, 1, none⟩ = some (.slice (sA (v 1)) T (sC (v 1))) := (p06 1).trans ((unhide HS0).c 1 (by omega)); clear p06; clear ho0 hg0 p01 p03 p04 p05) | (at_builtin; refine wpList_append1 rfl _ _ 43 rfl 33 i2 (.slice none 0 0) 1 24 Tryd.underlying43 hk2 hz0 hz1 hz2 rfl (.slice (sA (v 1)) T (sC (v 1))) T (x 1) rfl (((unhide HS1).r 1 (by omega)).alloc _) _ _ [.slice (some ⟨gR, 0, none⟩) n n] rfl rfl (cell_one_set _ _ _ _ _) (by simp [Value.oneCell']) (by unfold maxLen; omega) (by omega) ?_; intro u1 w1 ho1 hg1; obtain ⟨g1, q1, hu1, _, _, _, _, _⟩ := row_shape ho1 (by omega); subst hu1; obtain ⟨p11, p12, p13, p14, p15, p16⟩ := (unhide HS1).step (i := 1) (by omega) _ ho1 hg1; have n1 : w1.cell? ⟨S, 1, none⟩ = some (.slice (sA (v 1)) T (sC (v 1))) := p11; have HS2 := hide p13; have HF1 := hide p14; have HN1 := hide p15; have m1 : w1.cell? ⟨S, 2, none⟩ = some (.slice (sA (v 2)) T (sC (v 2))) := (p16 2).trans ((unhide HS1).c 2 (by omega)); clear p16; clear ho1 hg1 p11 p13 p14 p15) | (at_builtin; refine wpList_append1 rfl _ _ 43 rfl 33 i2 (.slice none 0 0) 1 24 Tryd.underlying43 hk2 hz0 hz1 hz2 rfl (.slice (sA (v 2)) T (sC (v 2))) T (x 2) rfl (((unhide HS2).r 2 (by omega)).alloc _) _ _ [.slice (some ⟨gB, 0, none⟩) n n] rfl rfl (cell_one_set _ _ _ _ _) (by simp [Value.oneCell']) (by unfold maxLen; omega) (by omega) ?_; intro u2 w2 ho2 hg2; obtain ⟨g2, q2, hu2, _, _, _, _, _⟩ := row_shape ho2 (by omega); subst hu2; obtain ⟨p21, p22, p23, p24, p25, p26⟩ := (unhide HS2).step (i := 2) (by omega) _ ho2 hg2; have n2 : w2.cell? ⟨S, 2, none⟩ = some (.slice (sA (v 2)) T (sC (v 2))) := p21; have HS3 := hide p23; have HF2 := hide p24; have HN2 := hide p25; have m2 : w2.cell? ⟨S, 3, none⟩ = some (.slice (sA (v 3)) T (sC (v 3))) := (p26 3).trans ((unhide HS2).c 3 (by omega)); clear p26; clear ho2 hg2 p21 p23 p24 p25) | (at_builtin; refine wpList_append1 rfl _ _ 43 rfl 33 i2 (.slice none 0 0) 1 24 Tryd.underlying43 hk2 hz0 hz1 hz2 rfl (.slice (sA (v 3)) T (sC (v 3))) T (x 3) rfl (((unhide HS3).r 3 (by omega)).alloc _) _ _ [.slice (some ⟨gY, 0, none⟩) n n] rfl rfl (cell_one_set _ _ _ _ _) (by simp [Value.oneCell']) (by unfold maxLen; omega) (by omega) ?_; intro u3 w3 ho3 hg3; obtain ⟨g3, q3, hu3, _, _, _, _, _⟩ := row_shape ho3 (by omega); subst hu3; obtain ⟨p31, p32, p33, p34, p35, p36⟩ := (unhide HS3).step (i := 3) (by omega) _ ho3 hg3; have n3 : w3.cell? ⟨S, 3, none⟩ = some (.slice (sA (v 3)) T (sC (v 3))) := p31; have HS4 := hide p33; have HF3 := hide p34; have HN3 := hide p35; clear p36; clear ho3 hg3 p31 p33 p34 p35))
          go_ret
          have hq := unhide HQP
          have hO : ∀ i, i < 4 → ∀ g, (Value.slice (sA (v i)) T (sC (v i))).ownBlock = some g → S4.own S v g := fun i hi g h => .inr ⟨i, hi, by rw [row_is ((unhide HSR).r i hi)]; exact h⟩
          have f0 := unhide HF0
          have f1 := unhide HF1
          have f2 := unhide HF2
          have f3 := unhide HF3
          have fO : ∀ i, i < 4 → ∀ g, (g = S ∨ (Value.slice (sA (v i)) T (sC (v i))).ownBlock = some g) → S4.own S v g := fun i hi g h => by
            rcases h with h | h
            · exact .inl h
            · exact hO i hi g h
          have s0 := f0.size; have s1 := f1.size; have s2 := f2.size; have s3 := f3.size
          have fr4 : Fr wr _ (S4.own S v) := ((⟨f0.os, f0.tape, f0.output, f0.size, fun g hg hn => f0.blk g hg fun q => hn (fO 0 (by omega) g q)⟩ : Fr wr _ (S4.own S v)).trans f1 fun g _ q => fO 1 (by omega) g q).trans f2 (fun g _ q => fO 2 (by omega) g q) |>.trans f3 fun g _ q => fO 3 (by omega) g q
          have lr := hq.r.lt; have lb := hq.b.lt; have ly := hq.y.lt
          have ns : ∀ g, w.heap.size ≤ g → ¬ S4.own S v g := fun g hg q => by have := unhide HNS g q; omega
          refine ⟨rfl, _, gR, gB, gY, (unhide HS4).congr (fun _ _ => rfl) (fun i hi => ?_) (fun i hi => ?_), hq.r.kept (fr4.blk gR lr (ns gR hd1)), hq.b.kept (fr4.blk gB lb (ns gB (by omega))), (hq.y.kept (fr4.blk gY ly (ns gY (by omega)))).congr (fun f _ => ?_), hq.tk.kept (fun h0 => fr4.blk gt (Nat.lt_of_lt_of_le (hQD.t h0) hq.fr.size) (unhide HgS h0)), ?_, ?_, hd1, by omega, by omega⟩
          · match i, hi with
            | 0, _ => rfl
            | 1, _ => rfl
            | 2, _ => rfl
            | 3, _ => rfl
          · match i, hi with
            | 0, _ => rfl
            | 1, _ => rfl
            | 2, _ => rfl
            | 3, _ => rfl
          · rw [hkB]
            simp [sumY, sumP]
          · refine ⟨fr4.os.trans hq.fr.os, fr4.tape.trans hq.fr.tape, fr4.output.trans hq.fr.output, Nat.le_trans hq.fr.size fr4.size, fun g hg hn => ?_⟩
            rw [fr4.blk g (Nat.lt_of_lt_of_le hg hq.fr.size) fun q => hn (.inl q)]
            exact hq.fr.blk g hg fun q => hn (.inr q)
          · have hsz := hq.fr.size
            have hnew : ∀ i, i < 4 → ∀ g, ((Value.slice (sA (v i)) T (sC (v i))).ownBlock = some g ∨ wr.heap.size ≤ g) → S4.own S v g ∨ (w.heap.size ≤ g ∧ g ≠ gR ∧ g ≠ gB ∧ g ≠ gY) := fun i hi g h => by
              rcases h with h | h
              · exact .inl (hO i hi g h)
              · exact .inr ⟨by omega, by omega, by omega, by omega⟩
            rintro g (h | ⟨i, hi, h⟩)
            · exact .inl (.inl h)
            · match i, hi with
              | 0, _ => exact hnew 0 (by omega) g (unhide HN0 g h)
              | 1, _ => exact hnew 1 (by omega) g (by rcases unhide HN1 g h with q | q; exact .inl q; exact .inr (by omega))
              | 2, _ => exact hnew 2 (by omega) g (by rcases unhide HN2 g h with q | q; exact .inl q; exact .inr (by omega))
              | 3, _ => exact hnew 3 (by omega) g (by rcases unhide HN3 g h with q | q; exact .inl q; exact .inr (by omega))
end Go.Proofs.YtogdekjklbbbiaaDoor
