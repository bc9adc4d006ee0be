import Derived.Test.YtogdekjklbbbiaaDoorGac
import Derived.Laws.Rows
set_option maxRecDepth 100000
namespace Go.Proofs.YtogdekjklbbbiaaDoor
open Go.ChangeShapes Go.WideShapes Go.ChangeAt Go.RowKit
set_option linter.unusedSimpArgs false
set_option linter.unusedVariables false

/-- A row of integers. -/
structure RW (w : World) (g n : Nat) (f : Nat → Int) : Prop where
  lt : g < w.heap.size
  fz : ∀ o, w.frozen? ⟨g, o, none⟩ = false
  cell : ∀ i, i < n → w.cell? ⟨g, i, none⟩ = some (.int .i64 (f i))
theorem blk_lt {w w' : World} {g : Nat} (h : g < w.heap.size) (hk : w'.heap[g]? = w.heap[g]?) : g < w'.heap.size := by
  rw [Array.getElem?_eq_getElem h] at hk
  exact (Array.getElem?_eq_some_iff.1 hk).1
theorem RW.kept {w w' : World} {g n : Nat} {f : Nat → Int} (h : RW w g n f) (hk : w'.heap[g]? = w.heap[g]?) : RW w' g n f :=
  ⟨blk_lt h.lt hk, fun o => (frozen_of hk o).trans (h.fz o), fun i hi => (World.cell?_of_block (w := w) (a := ⟨g, i, none⟩) hk).trans (h.cell i hi)⟩
theorem RW.congr {w : World} {g n : Nat} {f f' : Nat → Int} (h : RW w g n f) (he : ∀ i, i < n → f i = f' i) : RW w g n f' := ⟨h.lt, h.fz, fun i hi => by rw [← he i hi]; exact h.cell i hi⟩
theorem RW.set {w : World} {g n : Nat} {f : Nat → Int} (h : RW w g n f) {i : Nat} (hi : i < n) (v : Int) : RW (w.setCell ⟨g, i, none⟩ (.int .i64 v)) g n (fun j => if j = i then v else f j) := by
  have hch : Ch w (w.setCell ⟨g, i, none⟩ (.int .i64 v)) (fun a o => a = g ∧ o = i) := (Ch.refl w _).setCell ⟨rfl, rfl⟩ _
  refine ⟨by rw [hch.size]; exact h.lt, fun o => by rw [hch.fz]; exact h.fz o, fun j hj => ?_⟩
  by_cases e : j = i
  · subst e
    simp only [if_true]
    exact World.cell?_setCell_same' _ _ _ (by rw [h.cell j hj]; rfl)
  · simp only [if_neg e]
    rw [hch.cell g j fun q => e q.2]; exact h.cell j hj
theorem set_blk (w : World) (b o : Nat) (v : Value) {g : Nat} (h : g ≠ b) : (w.setCell ⟨b, o, none⟩ v).heap[g]? = w.heap[g]? := Below.heap_setCell _ _ _ _ h
/-- The tracks. -/
structure TK (w : World) (gt n sz : Nat) (nr nb : Nat → Int) : Prop where
  lt : 0 < n → gt < w.heap.size
  fz : ∀ o, 0 < n → w.frozen? ⟨gt, o, none⟩ = false
  c1 : ∀ i, i < n → ∃ v, w.cell? ⟨gt, i * 6 + 1, none⟩ = some v
  c2 : ∀ i, i < n → ∃ v, w.cell? ⟨gt, i * 6 + 2, none⟩ = some v
  c3 : ∀ i, i < n → w.cell? ⟨gt, i * 6 + 3, none⟩ = some (.int .i64 (nr i))
  c4 : ∀ i, i < n → w.cell? ⟨gt, i * 6 + 4, none⟩ = some (.int .i64 (nb i))
  sh : 0 < n → ∃ cur, w.heap[gt]? = some (.cells cur 105) ∧ cur.size = sz
theorem TK.kept {w w' : World} {gt n sz : Nat} {nr nb : Nat → Int} (h : TK w gt n sz nr nb) (hk : 0 < n → w'.heap[gt]? = w.heap[gt]?) : TK w' gt n sz nr nb := by
  have hc : ∀ i o, i < n → w'.cell? ⟨gt, o, none⟩ = w.cell? ⟨gt, o, none⟩ := fun i o hi => World.cell?_of_block (w := w) (a := ⟨gt, o, none⟩) (hk (by omega))
  exact ⟨fun h0 => blk_lt (h.lt h0) (hk h0), fun o h0 => (frozen_of (hk h0) o).trans (h.fz o h0), fun i hi => by rw [hc i _ hi]; exact h.c1 i hi, fun i hi => by rw [hc i _ hi]; exact h.c2 i hi, fun i hi => by rw [hc i _ hi]; exact h.c3 i hi, fun i hi => by rw [hc i _ hi]; exact h.c4 i hi, fun h0 => by rw [hk h0]; exact h.sh h0⟩
theorem some_set {w : World} {a b : Addr} {v u : Value} (h : w.cell? b = some u) : ∃ u', (w.setCell a v).cell? b = some u' := by
  have := isSome_set w a b v
  rw [h] at this
  cases hz : (w.setCell a v).cell? b with
  | none => rw [hz] at this; cases this
  | some z => exact ⟨z, rfl⟩
theorem sh_set {w : World} {g o sz : Nat} {v : Value} (h : ∃ cur, w.heap[g]? = some (.cells cur 105) ∧ cur.size = sz) : ∃ cur, (w.setCell ⟨g, o, none⟩ v).heap[g]? = some (.cells cur 105) ∧ cur.size = sz := by
  obtain ⟨cur, h1, h2⟩ := h
  exact ⟨_, heap_setCell_same w g o cur 105 v h1, by simpa using h2⟩
/-- Rate and burst are written. -/
theorem TK.set {w : World} {gt n sz : Nat} {nr nb : Nat → Int} (h : TK w gt n sz nr nb) (i r : Nat) (hr : r = 1 ∨ r = 2) (v : Value) : TK (w.setCell ⟨gt, i * 6 + r, none⟩ v) gt n sz nr nb := by
  have hch : Ch w (w.setCell ⟨gt, i * 6 + r, none⟩ v) (fun a o => a = gt ∧ o = i * 6 + r) := (Ch.refl w _).setCell ⟨rfl, rfl⟩ _
  refine ⟨fun h0 => by rw [hch.size]; exact h.lt h0, fun o h0 => by rw [hch.fz]; exact h.fz o h0, fun j hj => ?_, fun j hj => ?_, fun j hj => ?_, fun j hj => ?_, fun h0 => sh_set (h.sh h0)⟩
  · obtain ⟨u, hu⟩ := h.c1 j hj; exact some_set hu
  · obtain ⟨u, hu⟩ := h.c2 j hj; exact some_set hu
  · rw [hch.cell gt _ fun q => by omega]; exact h.c3 j hj
  · rw [hch.cell gt _ fun q => by omega]; exact h.c4 j hj
/-- What was asked for is written. -/
theorem TK.put {w : World} {gt n sz : Nat} {nr nb : Nat → Int} (h : TK w gt n sz nr nb) {i : Nat} (hi : i < n) (a b : Int) : TK ((w.setCell ⟨gt, i * 6 + 3, none⟩ (.int .i64 a)).setCell ⟨gt, i * 6 + 4, none⟩ (.int .i64 b)) gt n sz (fun j => if j = i then a else nr j) (fun j => if j = i then b else nb j) := by
  have hch : Ch w ((w.setCell ⟨gt, i * 6 + 3, none⟩ (.int .i64 a)).setCell ⟨gt, i * 6 + 4, none⟩ (.int .i64 b)) (fun a o => a = gt ∧ (o = i * 6 + 3 ∨ o = i * 6 + 4)) := ((Ch.refl w _).setCell ⟨rfl, .inl rfl⟩ _).setCell ⟨rfl, .inr rfl⟩ _
  refine ⟨fun h0 => by rw [hch.size]; exact h.lt h0, fun o h0 => by rw [hch.fz]; exact h.fz o h0, fun j hj => ?_, fun j hj => ?_, fun j hj => ?_, fun j hj => ?_, fun h0 => sh_set (sh_set (h.sh h0))⟩
  · rw [hch.cell gt _ fun q => by omega]; exact h.c1 j hj
  · rw [hch.cell gt _ fun q => by omega]; exact h.c2 j hj
  · by_cases e : j = i
    · subst e
      simp only [if_true]
      rw [World.cell?_setCell_other _ _ _ _ (by intro q; injection q with q1 q2; omega)]
      exact World.cell?_setCell_same' _ _ _ (by rw [h.c3 j hj]; rfl)
    · simp only [if_neg e]
      rw [hch.cell gt _ fun q => by omega]; exact h.c3 j hj
  · by_cases e : j = i
    · subst e
      simp only [if_true]
      refine World.cell?_setCell_same' _ _ _ ?_
      rw [World.cell?_setCell_other _ _ _ _ (by intro q; injection q with q1 q2; omega), h.c4 j hj]; rfl
    · simp only [if_neg e]
      rw [hch.cell gt _ fun q => by omega]; exact h.c4 j hj
/-- Four rows behind one block. -/
structure S4 (w : World) (S : Nat) (v : Nat → Value) (x : Nat → List Value) (T : Nat → Nat) : Prop where
  lt : S < w.heap.size
  fz : ∀ o, w.frozen? ⟨S, o, none⟩ = false
  c : ∀ i, i < 4 → w.cell? ⟨S, i, none⟩ = some (v i)
  r : ∀ i, i < 4 → w.ownsRow 0 (if i = 0 then 3 else 33) 1 (v i) (T i) (x i)
  s : ∀ i, i < 4 → (v i).ownBlock ≠ some S
  d : ∀ i j, i < 4 → j < 4 → i ≠ j → ∀ g, (v i).ownBlock = some g → (v j).ownBlock ≠ some g
theorem S4.kept {w w' : World} {S : Nat} {v : Nat → Value} {x : Nat → List Value} {T : Nat → Nat} (h : S4 w S v x T) (hS : w'.heap[S]? = w.heap[S]?) (hk : ∀ i, i < 4 → ∀ g, (v i).ownBlock = some g → w'.heap[g]? = w.heap[g]?) : S4 w' S v x T :=
  ⟨blk_lt h.lt hS, fun o => (frozen_of hS o).trans (h.fz o), fun i hi => (World.cell?_of_block (w := w) (a := ⟨S, i, none⟩) hS).trans (h.c i hi), fun i hi => row_kept0 (h.r i hi) (hk i hi), h.s, h.d⟩
theorem S4.congr {w : World} {S : Nat} {v v' : Nat → Value} {x x' : Nat → List Value} {T T' : Nat → Nat} (h : S4 w S v x T) (hv : ∀ i, i < 4 → v i = v' i) (hx : ∀ i, i < 4 → x i = x' i) (hT : ∀ i, i < 4 → T i = T' i) : S4 w S v' x' T' :=
  ⟨h.lt, h.fz, fun i hi => by rw [← hv i hi]; exact h.c i hi, fun i hi => by rw [← hv i hi, ← hx i hi, ← hT i hi]; exact h.r i hi, fun i hi => by rw [← hv i hi]; exact h.s i hi, fun i j hi hj hij => by rw [← hv i hi, ← hv j hj]; exact h.d i j hi hj hij⟩
/-- Whose the rows are. -/
def S4.own (S : Nat) (v : Nat → Value) (k : Nat) : Prop := k = S ∨ ∃ i, i < 4 ∧ (v i).ownBlock = some k
theorem S4.step {w w2 : World} {S : Nat} {v : Nat → Value} {x : Nat → List Value} {T : Nat → Nat} (h : S4 w S v x T) {i : Nat} (hi : i < 4) (ob : Obj) {v' u : Value} (hown : w2.ownsRow 0 (if i = 0 then 3 else 33) 1 v' (T i + 1) (x i ++ [u]))
    (hg : (v'.ownBlock = (v i).ownBlock ∧ (w.alloc ob).grownBy w2 (v i).ownBlock) ∨ (v'.ownBlock = some (w.alloc ob).heap.size ∧ (w.alloc ob).grownBy w2 none)) :
    w2.cell? ⟨S, i, none⟩ = some (v i) ∧ w2.frozen? ⟨S, i, none⟩ = false ∧ S4 (w2.setCell ⟨S, i, none⟩ v') S (upd v i v') (upd x i (x i ++ [u])) (upd T i (T i + 1)) ∧ Fr w (w2.setCell ⟨S, i, none⟩ v') (fun k => k = S ∨ (v i).ownBlock = some k) ∧ (∀ k, v'.ownBlock = some k → (v i).ownBlock = some k ∨ w.heap.size ≤ k) ∧ (∀ o, w2.cell? ⟨S, o, none⟩ = w.cell? ⟨S, o, none⟩) := by
  have hsz : w.heap.size < (w.alloc ob).heap.size := by simp
  have hb : ∀ k, k < w.heap.size → (v i).ownBlock ≠ some k → w2.heap[k]? = w.heap[k]? := fun k hk hn => by
    rw [app_blk hg (by omega) (fun e => absurd e hn), Below.heap_alloc _ _ _ hk]
  have hsz2 := (app_size hg).2.2.2
  have hS := hb S h.lt (h.s i hi)
  have hnew : ∀ k, v'.ownBlock = some k → (v i).ownBlock = some k ∨ w.heap.size ≤ k := fun k hk => by
    rcases hg with ⟨q, _⟩ | ⟨q, _⟩
    · exact .inl (by rw [← q]; exact hk)
    · rw [q] at hk; injection hk with hk; exact .inr (by omega)
  have hch : Ch w2 (w2.setCell ⟨S, i, none⟩ v') (fun a o => a = S ∧ o = i) := (Ch.refl w2 _).setCell ⟨rfl, rfl⟩ _
  have hc2 : ∀ o, w2.cell? ⟨S, o, none⟩ = w.cell? ⟨S, o, none⟩ := fun o => World.cell?_of_block (w := w) (a := ⟨S, o, none⟩) hS
  have hvS : v'.ownBlock ≠ some S := fun e => by
    rcases hnew S e with q | q
    · exact h.s i hi q
    · have := h.lt; omega
  have hold : ∀ j, j < 4 → ∀ g, (v j).ownBlock = some g → g < w.heap.size := fun j hj g hg' => ((h.r j hj).lt g hg').2
  refine ⟨by rw [hc2]; exact h.c i hi, (frozen_of hS i).trans (h.fz i), ⟨?_, ?_, ?_, ?_, ?_, ?_⟩, ?_, hnew, hc2⟩
  · rw [hch.size]; exact blk_lt h.lt hS
  · intro o; rw [hch.fz]; exact (frozen_of hS o).trans (h.fz o)
  · intro j hj
    by_cases e : j = i
    · subst e
      rw [upd_same]
      exact World.cell?_setCell_same' _ _ _ (by rw [hc2, h.c j hj]; rfl)
    · rw [upd, if_neg e, hch.cell S j fun q => e q.2, hc2]; exact h.c j hj
  · intro j hj
    by_cases e : j = i
    · subst e
      rw [upd_same, upd_same, upd_same]
      exact row_kept0 hown fun g hg' => set_blk _ _ _ _ fun e => hvS (by rw [← e]; exact hg')
    · simp only [upd, if_neg e]
      refine row_kept0 (h.r j hj) fun g hg' => ?_
      rw [set_blk _ _ _ _ fun e => h.s j hj (by rw [← e]; exact hg')]
      exact hb g (hold j hj g hg') fun q => h.d j i hj hi e g hg' q
  · intro j hj
    by_cases e : j = i
    · subst e; rw [upd_same]; exact hvS
    · rw [upd, if_neg e]; exact h.s j hj
  · intro a b ha hb' hab g hg'
    by_cases e1 : a = i
    · subst e1
      rw [upd_same] at hg'
      rw [upd, if_neg (by omega)]
      rcases hnew g hg' with q | q
      · exact h.d a b ha hb' hab g q
      · exact fun q2 => by have := hold b hb' g q2; omega
    · rw [upd, if_neg e1] at hg'
      by_cases e2 : b = i
      · subst e2
        rw [upd_same]
        intro q2
        rcases hnew g q2 with q | q
        · exact h.d a b ha hb' hab g hg' q
        · have := hold a ha g hg'; omega
      · rw [upd, if_neg e2]; exact h.d a b ha hb' hab g hg'
  · refine ⟨?_, ?_, ?_, ?_, fun k hk hn => ?_⟩
    · exact (app_size hg).1
    · exact (app_size hg).2.1
    · exact (app_size hg).2.2.1
    · rw [hch.size]; omega
    · rw [set_blk _ _ _ _ fun e => hn (.inl e)]
      exact hb k hk fun e => hn (.inr e)
/-- The bytes of the first packets; of the batches of a flow. -/
def sumP (le : Nat → Int) : Nat → Int
  | 0 => 0
  | j + 1 => sumP le j + le j
def sumB (B : BV) (f : Nat) : Nat → Int
  | 0 => 0
  | i + 1 => sumB B f i + if B.fl i = (f : Int) + 1 then sumP (B.le i) (B.ln i) else 0
def sumY (B : BV) (i j f : Nat) : Int := sumB B f i + if B.fl i = (f : Int) + 1 then sumP (B.le i) j else 0
theorem sumP_le {le : Nat → Int} (n : Nat) (h : ∀ j, j < n → 0 ≤ le j ∧ le j ≤ 1500) : ∀ j, j ≤ n → 0 ≤ sumP le j ∧ sumP le j ≤ 1500 * j := by
  intro j
  induction j with
  | zero => intro _; simp [sumP]
  | succ j ih =>
    intro hj
    have h1 := ih (by omega)
    have h2 := h j (by omega)
    simp only [sumP]
    omega
theorem sumB_le {B : BV} (h : ∀ i j, i < B.n → j < B.ln i → 0 ≤ B.le i j ∧ B.le i j ≤ 1500) (hl : ∀ i, i < B.n → B.ln i ≤ 8) (f : Nat) : ∀ i, i ≤ B.n → 0 ≤ sumB B f i ∧ sumB B f i ≤ 12000 * i := by
  intro i
  induction i with
  | zero => intro _; simp [sumB]
  | succ i ih =>
    intro hi
    have h1 := ih (by omega)
    have h2 := sumP_le (B.ln i) (fun j hj => h i j (by omega) hj) (B.ln i) (Nat.le_refl _)
    have h3 := hl i (by omega)
    simp only [sumB]
    split <;> omega
theorem sumY_le {B : BV} (h : ∀ i j, i < B.n → j < B.ln i → 0 ≤ B.le i j ∧ B.le i j ≤ 1500) (hl : ∀ i, i < B.n → B.ln i ≤ 8) (f : Nat) {i j : Nat} (hi : i < B.n) (hj : j ≤ B.ln i) : 0 ≤ sumY B i j f ∧ sumY B i j f ≤ 12000 * i + 12000 := by
  have h1 := sumB_le h hl f i (by omega)
  have h2 := sumP_le (B.ln i) (fun j hj => h i j hi hj) j hj
  have h3 := hl i hi
  unfold sumY
  split <;> omega
end Go.Proofs.YtogdekjklbbbiaaDoor

namespace Go.Proofs.YtogdekjklbbbiaaDoor
open Go.ChangeShapes Go.WideShapes Go.ChangeAt Go.RowKit
set_option linter.unusedSimpArgs false
set_option linter.unusedVariables false

/-- How far an append of one element reaches. -/
theorem nsc_le (old : Nat) : Builtin.nextslicecap (old + 1) old ≤ old + (old + 768) / 4 + 256 := by
  unfold Builtin.nextslicecap
  split
  · omega
  · split
    · omega
    · rw [growBy_four]
      repeat' split
      all_goals omega
/-- An append of one element, to a row as long as may be. -/
theorem run_append1 {P : Program} (w : World) (t ty e : TypeId) (i : TypeInfo) (z : Value) (size bytes : Nat) (ht : P.underlying t = some (.slice e)) (hi : P.info? e = some i) (hz : i.zero = some z)
    (hsize : i.size = size) (hby : i.bytes = bytes) (hzs : z.cells.size = size)
    (v : Value) (n : Nat) (xs : List Value) (hown : w.ownsRow 0 e size v n xs)
    (a : Addr) (c : Nat) (news : List Value) (hl : news.length = size) (hnews : ∀ j u, news[j]? = some u → w.cell? (a.add j) = some u) (h1 : ∀ u ∈ news, u.oneCell' = true)
    (h63 : n + 1 ≤ maxLen) (hfit : (n + (n + 768) / 4 + 256) * bytes ≤ 281474976710656) :
    ∃ v' w', (Builtin.append_ #[t, t] ty #[v, .slice (some a) 1 c]).run P w = .ok v' w' ∧ w'.ownsRow 0 e size v' (n + 1) (xs ++ news) ∧
      ((v'.ownBlock = v.ownBlock ∧ w.grownBy w' v.ownBlock) ∨ (v'.ownBlock = some w.heap.size ∧ w.grownBy w' none)) := by
  subst hsize
  subst hby
  have hsmall : n + 1 ≤ 9223372036854775807 := by simp only [maxLen] at h63; omega
  have hl1 : news.length = 1 * i.size := by rw [Nat.one_mul]; exact hl
  have hlen : (xs ++ news).length = (n + 1) * i.size := by rw [List.length_append, hown.1, hl, Nat.add_mul, Nat.one_mul]
  have fresh : ∀ (old : Nat), w.drew.alloc (.cells (xs.toArray ++ news.toArray ++ Builtin.zeroCells z.cells (grownCap w (n + 1) old e - (n + 1))) e) = w.drew.alloc (.cells (xs.toArray ++ news.toArray ++ Builtin.zeroCells z.cells (grownCap w (n + 1) old e - (n + 1))) e) →
      (w.drew.alloc (.cells (xs.toArray ++ news.toArray ++ Builtin.zeroCells z.cells (grownCap w (n + 1) old e - (n + 1))) e)).ownsRow 0 e i.size (.slice (some ⟨w.heap.size, 0, none⟩) (n + 1) (grownCap w (n + 1) old e)) (n + 1) (xs ++ news) ∧
      w.grownBy (w.drew.alloc (.cells (xs.toArray ++ news.toArray ++ Builtin.zeroCells z.cells (grownCap w (n + 1) old e - (n + 1))) e)) none := by
    intro old _
    have hge := grownCap_ge w (n + 1) old e
    refine ⟨⟨hlen, .inr ⟨w.heap.size, _, _, rfl, Nat.zero_le _, heap_alloc_new w.drew _, hge, grownCap_le_maxLen w (n + 1) old e h63, ?_, ?_⟩⟩, ⟨rfl, rfl, rfl, by simp, fun k hk _ => Below.heap_alloc w.drew _ _ hk⟩⟩
    · simp only [Array.size_append, List.size_toArray, size_zeroCells, hzs, hown.1, hl1, ← Nat.add_mul]
      congr 1
      omega
    · simp only [Array.toList_append, List.append_assoc]
      rw [← List.append_assoc, ← hlen]
      exact List.take_left
  rcases hown.2 with ⟨rfl, rfl⟩ | ⟨g, cap, cur, rfl, hbg, hg, hnc, hcm, hcs, htake⟩
  · have hx : xs = [] := List.eq_nil_of_length_eq_zero (by simpa using hown.1)
    subst hx
    have hr := run_append_nil (P := P) w t ty e i z ht hi hz a 1 c news hl1 hnews (by omega) (by omega) (by omega)
    have hgr := fresh 0 rfl
    simp only [Nat.zero_add, List.nil_append, Array.empty_append] at hgr ⊢
    exact ⟨_, _, hr, hgr.1, .inr ⟨rfl, hgr.2⟩⟩
  · by_cases hroom : n + 1 ≤ cap
    · have hf : n * i.size + news.length ≤ cur.size := by rw [hl1, hcs, ← Nat.add_mul]; exact Nat.mul_le_mul_right _ hroom
      have hr := run_append_room (P := P) w t ty e i ht hi g n cap cur hg a 1 c news hl1 hnews h1 hroom hf
      refine ⟨_, _, hr, ⟨hlen, .inr ⟨g, cap, _, rfl, hbg, setRow_heap w g cur _ e _ hg, hroom, hcm, ?_, ?_⟩⟩, .inl ⟨rfl, ⟨rfl, rfl, rfl, by simp, fun k _ hk => setRow_other w g k _ (fun e => hk (by simp [Value.ownBlock, e]))⟩⟩⟩
      · simp only [List.size_toArray, List.length_append, List.length_take, List.length_drop, Array.length_toList]
        omega
      · rw [htake, ← hlen]
        exact List.take_left
    · have hcn : cap = n := by omega
      subst hcn
      have hb : Builtin.nextslicecap (cap + 1) cap * i.bytes ≤ 281474976710656 := Nat.le_trans (Nat.mul_le_mul_right _ (nsc_le cap)) hfit
      have hr := run_append_grow (P := P) w t ty e i z ht hi hz ⟨g, 0, none⟩ cap cap xs hown.1 (hown.cells (g := g) rfl) a 1 c news hl1 hnews (by omega) (by omega) hb
      have hgr := fresh cap rfl
      exact ⟨_, _, hr, hgr.1, .inr ⟨rfl, hgr.2⟩⟩
theorem wpList_append1 {P : Program} {w : World} {ops : Array Oper} {rest : List Oper} {o : Oper} {a : Act} {Q : Exit → Act → World → Prop} (hgd : o.guard = none) (s x : Operand) (t : TypeId)
    (ho : o.op = .call { callee := .builtin .append, args := #[s, x], argTypes := #[t, t] })
    (e : TypeId) (i : TypeInfo) (z : Value) (size bytes : Nat) (ht : P.underlying t = some (.slice e)) (hi : P.info? e = some i) (hz : i.zero = some z)
    (hsize : i.size = size) (hby : i.bytes = bytes) (hzs : z.cells.size = size)
    (v : Value) (n : Nat) (xs : List Value) (hs : a.eval s = v) (hown : w.ownsRow 0 e size v n xs)
    (ad : Addr) (c : Nat) (news : List Value) (hx : a.eval x = .slice (some ad) 1 c) (hl : news.length = size) (hnews : ∀ j u, news[j]? = some u → w.cell? (ad.add j) = some u) (h1 : ∀ u ∈ news, u.oneCell' = true)
    (h63 : n + 1 ≤ maxLen) (hfit : (n + (n + 768) / 4 + 256) * bytes ≤ 281474976710656)
    (h : ∀ v' w', w'.ownsRow 0 e size v' (n + 1) (xs ++ news) → ((v'.ownBlock = v.ownBlock ∧ w.grownBy w' v.ownBlock) ∨ (v'.ownBlock = some w.heap.size ∧ w.grownBy w' none)) → wpList P ops Q rest (a.put o.dst v') w') :
    wpList P ops Q (o :: rest) a w := by
  refine wpList_plain hgd fun K hK => ?_
  obtain ⟨v', w', hr, h2, h3⟩ := run_append1 (P := P) w t o.type e i z size bytes ht hi hz hsize hby hzs v n xs hown ad c news hl hnews h1 h63 hfit
  unfold Oper.wp
  simp [execOp, ho, resolve, invoke, builtin, hs, hx, hr, Result.andThen]
  exact hK _ _ (h v' w' h2 h3)
theorem info3 : (Tryd.prog.info? 3).map (fun i => (i.zero, i.size, i.bytes)) = some (some (.int .i64 0), 1, 8) := by kernel_rfl
theorem info33 : (Tryd.prog.info? 33).map (fun i => (i.zero, i.size, i.bytes)) = some (some (.slice none 0 0), 1, 24) := by kernel_rfl
theorem info105 : (Tryd.prog.info? 105).map (fun i => (i.zero, i.size, i.bytes)) = some (some (.agg #[.int .i64 0, .int .i64 0, .int .i64 0, .int .i64 0, .int .i64 0, .bool false]), 6, 48) := by kernel_rfl
theorem rw_of_made {w : World} {g n : Nat} (h : w.ownsRow 0 3 1 (.slice (some ⟨g, 0, none⟩) n n) n (madeCells (Value.int .i64 0).cells (n * 1)).toList) : RW w g n (fun _ => 0) := by
  rcases h.2 with ⟨q, _⟩ | ⟨g', cap, cur, q, h1, h2, h3, h4, h5, h6⟩
  · cases q
  · injection q with q1 q2 q3
    injection q1 with q1
    injection q1 with q1
    subst q1
    refine ⟨(Array.getElem?_eq_some_iff.1 h2).1, fun o => by simp [World.frozen?, h2], fun i hi => ?_⟩
    have hc := h.cells (g := g) rfl i (.int .i64 0) (by simp [madeCells, Value.cells, hi, Nat.mod_one])
    rw [add_lit, Nat.zero_add] at hc
    exact hc
end Go.Proofs.YtogdekjklbbbiaaDoor
