import Derived.Test.YtogdekjklbbbiaaGreatDoorZ10
import Derived.Test.YtogdekjklbbbiaaGreatDoorZ19
set_option maxRecDepth 100000
namespace Go.Proofs.YtogdekjklbbbiaaGreatDoor
open Go.ChangeShapes Go.WideShapes Go.ChangeAt Go.RowKit
set_option linter.unusedSimpArgs false
set_option linter.unusedVariables false

theorem rev_ind0 {α : Type} {P : List α → Prop} (h0 : P []) (h1 : ∀ l x, P l → P (l ++ [x])) (l : List α) : P l := by
  have h : ∀ m : List α, P m.reverse := by
    intro m
    induction m with
    | nil => exact h0
    | cons x m ih => rw [List.reverse_cons]; exact h1 _ _ ih
  rw [← List.reverse_reverse l]
  exact h _
/-- The element k of a row of five cells each. -/
def At5 (cur : Array Value) (k : Nat) (v0 v1 v2 v3 v4 : Value) : Prop := cur[k * 5]? = some v0 ∧ cur[k * 5 + 1]? = some v1 ∧ cur[k * 5 + 2]? = some v2 ∧ cur[k * 5 + 3]? = some v3 ∧ cur[k * 5 + 4]? = some v4
/-- Which of the first j stay. -/
def keptN (d : Nat → Bool) (j : Nat) : List Nat := (List.range j).filter fun k => !d k
theorem keptN_succ (d : Nat → Bool) (j : Nat) : keptN d (j + 1) = if d j = true then keptN d j else keptN d j ++ [j] := by
  unfold keptN
  rw [List.range_succ, List.filter_append]
  cases h : d j <;> simp [h]
theorem keptN_all {d : Nat → Bool} {n : Nat} (h : ∀ k, k < n → d k = false) : keptN d n = List.range n := by
  unfold keptN
  apply List.filter_eq_self.2
  intro k hk
  rw [h k (List.mem_range.1 hk)]; rfl
theorem keptN_le (d : Nat → Bool) (n : Nat) : (keptN d n).length ≤ n := by
  unfold keptN
  exact Nat.le_trans (List.length_filter_le _ _) (by simp)
theorem kept_lt {d : Nat → Bool} {i : Nat} (hd : d i = true) : ∀ {j : Nat}, i < j → (keptN d j).length < j := by
  intro j
  induction j with
  | zero => intro h; omega
  | succ j ih =>
    intro h
    rw [keptN_succ]
    have := keptN_le d j
    split
    · omega
    · rename_i hn
      have hij : i ≠ j := fun e => hn (by rw [← e]; exact hd)
      have := ih (by omega)
      simp
      omega
def cells5of (e0 e1 e2 e3 e4 : Nat → Value) (K : List Nat) : List Value := K.flatMap fun k => [e0 k, e1 k, e2 k, e3 k, e4 k]
theorem kept_len {e0 e1 e2 e3 e4 : Nat → Value} {K : List Nat} : (cells5of e0 e1 e2 e3 e4 K).length = K.length * 5 := by
  induction K with
  | nil => rfl
  | cons k K ih => simp only [cells5of, List.flatMap_cons, List.length_append, List.length_cons, List.length_nil] at ih ⊢; omega
theorem row_of_at5 {e0 e1 e2 e3 e4 : Nat → Value} {cur : Array Value} : ∀ {K : List Nat}, K.length * 5 ≤ cur.size → (∀ t k, K[t]? = some k → At5 cur t (e0 k) (e1 k) (e2 k) (e3 k) (e4 k)) → cur.toList.take (K.length * 5) = cells5of e0 e1 e2 e3 e4 K := by
  intro K
  refine rev_ind0 (P := fun K => K.length * 5 ≤ cur.size → (∀ t k, K[t]? = some k → At5 cur t (e0 k) (e1 k) (e2 k) (e3 k) (e4 k)) → cur.toList.take (K.length * 5) = cells5of e0 e1 e2 e3 e4 K) ?_ ?_ K
  · intro _ _; simp [cells5of]
  · intro K k ih hl hA
    have hl' : K.length * 5 + 5 ≤ cur.size := by simp at hl; omega
    obtain ⟨a0, a1, a2, a3, a4⟩ := hA K.length k (by simp)
    have h1 := ih (by omega) fun t k' hk' => hA t k' (by
      rw [List.getElem?_append_left (List.getElem?_eq_some_iff.1 hk').1]; exact hk')
    have e : (K ++ [k]).length * 5 = K.length * 5 + 1 + 1 + 1 + 1 + 1 := by simp; omega
    have s : cells5of e0 e1 e2 e3 e4 (K ++ [k]) = cells5of e0 e1 e2 e3 e4 K ++ [e0 k, e1 k, e2 k, e3 k, e4 k] := by simp [cells5of]
    rw [e, s, ← h1]
    rw [List.take_add_one, List.take_add_one, List.take_add_one, List.take_add_one, List.take_add_one]
    simp only [Array.getElem?_toList]
    rw [a0, a1, a2, a3, a4]
    simp
/-- Behind a DeleteFunc. -/
def DFP (w w' : World) (g n : Nat) (e0 e1 e2 e3 e4 : Nat → Value) (d : Nat → Bool) (X : Nat → Prop) (R : World → Prop) (v' : Value) : Prop :=
  w'.ownsRow 0 161 5 v' (keptN d n).length (cells5of e0 e1 e2 e3 e4 (keptN d n)) ∧ v'.ownBlock = some g ∧ R w' ∧ (∀ z, z < w.heap.size → ¬ X z → z ≠ g → w'.heap[z]? = w.heap[z]?) ∧ w.heap.size ≤ w'.heap.size ∧ w'.os = w.os ∧ w'.tape = w.tape ∧ w'.output = w.output

theorem cell_some {W : World} {g : Nat} {cur : Array Value} {t : TypeId} (hg : W.heap[g]? = some (.cells cur t (0, 0))) {o : Nat} (ho : o < cur.size) : ∃ u, W.cell? ⟨g, o, none⟩ = some u ∧ W.frozen? ⟨g, o, none⟩ = false :=
  ⟨cur[o], (heap_cell hg o).trans (Array.getElem?_eq_getElem ho), by simp [World.frozen?, hg]⟩
theorem set1 {W : World} {g : Nat} {cur : Array Value} {t : TypeId} (hg : W.heap[g]? = some (.cells cur t (0, 0))) (o : Nat) (v : Value) : (W.setCell ⟨g, o, none⟩ v).heap[g]? = some (.cells (cur.setIfInBounds o v) t (0, 0)) := by
  simp [World.setCell, Array.getElem?_modify, hg]
theorem set5 {W : World} {g : Nat} {cur : Array Value} {t : TypeId} (hg : W.heap[g]? = some (.cells cur t (0, 0))) (p : Nat) (v0 v1 v2 v3 v4 : Value) (hp : p + 5 ≤ cur.size) :
    ∃ cur' : Array Value, (((((W.setCell ⟨g, p, none⟩ v0).setCell ⟨g, p + 1, none⟩ v1).setCell ⟨g, p + 2, none⟩ v2).setCell ⟨g, p + 3, none⟩ v3).setCell ⟨g, p + 4, none⟩ v4).heap[g]? = some (.cells cur' t (0, 0)) ∧ cur'.size = cur.size ∧
      (cur'[p]? = some v0 ∧ cur'[p + 1]? = some v1 ∧ cur'[p + 2]? = some v2 ∧ cur'[p + 3]? = some v3 ∧ cur'[p + 4]? = some v4) ∧ ∀ o, (o < p ∨ p + 5 ≤ o) → cur'[o]? = cur[o]? := by
  refine ⟨_, set1 (set1 (set1 (set1 (set1 hg _ _) _ _) _ _) _ _) _ _, by simp, ⟨?_, ?_, ?_, ?_, ?_⟩, fun o ho => ?_⟩
  all_goals simp only [Array.getElem?_setIfInBounds, Array.size_setIfInBounds]
  all_goals (repeat' split) <;> first | omega | rfl | simp_all
theorem set5_oth (W : World) (g p : Nat) (v0 v1 v2 v3 v4 : Value) : (∀ k, k ≠ g → (((((W.setCell ⟨g, p, none⟩ v0).setCell ⟨g, p + 1, none⟩ v1).setCell ⟨g, p + 2, none⟩ v2).setCell ⟨g, p + 3, none⟩ v3).setCell ⟨g, p + 4, none⟩ v4).heap[k]? = W.heap[k]?) ∧
    (((((W.setCell ⟨g, p, none⟩ v0).setCell ⟨g, p + 1, none⟩ v1).setCell ⟨g, p + 2, none⟩ v2).setCell ⟨g, p + 3, none⟩ v3).setCell ⟨g, p + 4, none⟩ v4).heap.size = W.heap.size :=
  ⟨fun k hk => by rw [Below.heap_setCell _ _ _ _ hk, Below.heap_setCell _ _ _ _ hk, Below.heap_setCell _ _ _ _ hk, Below.heap_setCell _ _ _ _ hk, Below.heap_setCell _ _ _ _ hk], by simp⟩
theorem zero136 (w : World) : (zeroValue 161).run Tryz.prog w = .ok (.agg #[.int .i64 0, .pointer none, .int .i64 0, .int .i64 0, .int .i64 0]) w := by kernel_rfl

set_option maxHeartbeats 1000000 in
theorem idx55_walk (g cap n : Nat) (z : Addr) (a : Option Addr) (kd r bu l : Nat → Int) (x : Nat → Nat) (d : Nat → Bool) (X : Nat → Prop) (w : World) (R : Nat → World → Prop) (hn : n < 9000) (h0 : R 0 w)
    (hXl : ∀ z, X z → z < w.heap.size) (hXg : ¬ X g) (hgl : 0 < n → a = some ⟨g, 0, none⟩ ∧ g < w.heap.size)
    (hcell : ∀ k, k < n → w.cell? ⟨g, k * 5, none⟩ = some (Value.int .i64 (kd k)) ∧ w.cell? ⟨g, k * 5 + 1, none⟩ = some (Value.pointer (some ⟨x k, 0, none⟩)) ∧ w.cell? ⟨g, k * 5 + 2, none⟩ = some (Value.int .i64 (r k)) ∧ w.cell? ⟨g, k * 5 + 3, none⟩ = some (Value.int .i64 (bu k)) ∧ w.cell? ⟨g, k * 5 + 4, none⟩ = some (Value.int .i64 (l k)))
    (hCall : ∀ k W, R k W → k < n → Calls Tryz.prog 82 #[.agg #[(Value.int .i64 (kd k)), (Value.pointer (some ⟨x k, 0, none⟩)), (Value.int .i64 (r k)), (Value.int .i64 (bu k)), (Value.int .i64 (l k))], .pointer (some z)] W fun e w' => e = .returned (.bool (d k)) ∧ R (k + 1) w' ∧ Fr W w' X) :
    Calls Tryz.prog 121 #[.slice a n cap, .func (.func 82) #[] #[.pointer (some z)]] w fun e w' => Fr w w' X ∧ ((∃ i : Nat, i < n ∧ e = .returned (.int .i64 (i : Int)) ∧ d i = true ∧ (∀ k, k < i → d k = false) ∧ R (i + 1) w') ∨ (e = .returned (.int .i64 (-1)) ∧ (∀ k, k < n → d k = false) ∧ R n w')) := by
  have H0 := hide h0; have HGL := hide hgl; have HCe := hide hcell; have HCall := hide hCall; have HXl := hide hXl
  clear h0 hgl hcell hCall hXl
  go_enter Tryz.func121, Tryz.ntmps121
  go_wp2_with fail
  go_loopg [8] n (fun gk i wr => ∃ k : Nat, i = .int .i64 (k : Int) ∧ gk = n - k ∧ k ≤ n ∧ R k wr ∧ Fr w wr X ∧ ∀ j, j < k → d j = false)
  case atStart => exact ⟨0, rfl, rfl, Nat.zero_le _, unhide H0, Fr.refl _ _, fun j hj => absurd hj (Nat.not_lt_zero _)⟩
  case round =>
    obtain ⟨k, hu, hgk, hkn, hR, hF, hno⟩ := hrel
    rw [hu]
    clear hu
    have HR := hide hR; have HGK := hide hgk; have HF := hide hF; have HNO := hide hno
    clear hR hgk hF hno
    by_cases hk : k < n
    · have hki : (k : Int) < (n : Int) := by omega
      have hk0 : (0 : Int) ≤ (k : Int) := by omega
      obtain ⟨ha, hgs⟩ := unhide HGL (by omega)
      obtain ⟨c0, c1, c2, c3, c4⟩ := unhide HCe k hk
      have hgb := (unhide HF).blk g hgs hXg
      have c0 := (World.cell?_of_block (w := w) (a := ⟨g, k * 5, none⟩) hgb).trans c0
      have c1 := (World.cell?_of_block (w := w) (a := ⟨g, k * 5 + 1, none⟩) hgb).trans c1
      have c2 := (World.cell?_of_block (w := w) (a := ⟨g, k * 5 + 2, none⟩) hgb).trans c2
      have c3 := (World.cell?_of_block (w := w) (a := ⟨g, k * 5 + 3, none⟩) hgb).trans c3
      have c4 := (World.cell?_of_block (w := w) (a := ⟨g, k * 5 + 4, none⟩) hgb).trans c4
      have HC := hide (unhide HCall k wr (unhide HR) hk)
      generalize kd k = v0 at c0 HC
      generalize x k = v1 at c1 HC
      generalize r k = v2 at c2 HC
      generalize bu k = v3 at c3 HC
      generalize l k = v4 at c4 HC
      subst ha
      clear hgb
      go_wp2_with fail
      refine (unhide HC).mono ?_
      rintro e w1 ⟨rfl, hw1, hf1⟩
      have HW1 := hide hw1; have HF1 := hide ((unhide HF).trans hf1 (fun _ _ q => q))
      clear hw1 hf1
      cases hd : d k with
      | true =>
        have HD := hide hd
        clear hd
        go_wp2_with fail
        go_ret
        exact ⟨unhide HF1, .inl ⟨k, hk, rfl, unhide HD, unhide HNO, unhide HW1⟩⟩
      | false =>
        have HD := hide hd
        clear hd
        go_wp2_with fail
        go_roundg (n - (k + 1))
        case measure => rw [unhide HGK]; omega
        case rel =>
          refine ⟨k + 1, by go_num, rfl, by omega, unhide HW1, unhide HF1, fun j hj => ?_⟩
          rcases Nat.lt_or_ge j k with q | q
          · exact unhide HNO j q
          · rw [show j = k by omega]; exact unhide HD
    · have hki : (k : Int) = (n : Int) := by omega
      go_wp2_with fail
      go_ret
      have hkn' : k = n := by omega
      subst hkn'
      exact ⟨unhide HF, .inr ⟨rfl, unhide HNO, unhide HR⟩⟩

set_option maxHeartbeats 2000000 in
theorem delf55_walk (g cap n : Nat) (z : Addr) (cur0 : Array Value) (kd r bu l : Nat → Int) (x : Nat → Nat) (d : Nat → Bool) (X : Nat → Prop) (w : World) (R : Nat → World → Prop) (hn : n < 9000) (hn0 : 0 < n) (hnc : n ≤ cap) (hcm : cap ≤ maxLen) (h0 : R 0 w)
    (hXl : ∀ z, X z → z < w.heap.size) (hXg : ¬ X g) (hg : w.heap[g]? = some (.cells cur0 161 (0, 0))) (hcs : cur0.size = cap * 5)
    (hcell : ∀ k, k < n → At5 cur0 k (Value.int .i64 (kd k)) (Value.pointer (some ⟨x k, 0, none⟩)) (Value.int .i64 (r k)) (Value.int .i64 (bu k)) (Value.int .i64 (l k)))
    (hAl : ∀ k W o, R k W → R k (W.alloc o)) (hRow : ∀ k W W', R k W → w.heap.size ≤ W.heap.size → (∀ j, j ≠ g → W'.heap[j]? = W.heap[j]?) → W'.heap.size = W.heap.size → W'.os = W.os → W'.tape = W.tape → W'.output = W.output → R k W')
    (hCall : ∀ k W, R k W → k < n → Calls Tryz.prog 82 #[.agg #[(Value.int .i64 (kd k)), (Value.pointer (some ⟨x k, 0, none⟩)), (Value.int .i64 (r k)), (Value.int .i64 (bu k)), (Value.int .i64 (l k))], .pointer (some z)] W fun e w' => e = .returned (.bool (d k)) ∧ R (k + 1) w' ∧ Fr W w' X) :
    Calls Tryz.prog 81 #[.slice (some ⟨g, 0, none⟩) n cap, .func (.func 82) #[] #[.pointer (some z)]] w fun e w' => ∃ v', e = .returned v' ∧ DFP w w' g n (fun k => .int .i64 (kd k)) (fun k => .pointer (some ⟨x k, 0, none⟩)) (fun k => .int .i64 (r k)) (fun k => .int .i64 (bu k)) (fun k => .int .i64 (l k)) d X (R n) v' := by
  have hgl : g < w.heap.size := (Array.getElem?_eq_some_iff.1 hg).1
  have hI := idx55_walk g cap n z (some ⟨g, 0, none⟩) kd r bu l x d X w R hn h0 hXl hXg (fun _ => ⟨rfl, hgl⟩) (fun k hk => by
    obtain ⟨a0, a1, a2, a3, a4⟩ := hcell k hk
    exact ⟨(heap_cell hg _).trans a0, (heap_cell hg _).trans a1, (heap_cell hg _).trans a2, (heap_cell hg _).trans a3, (heap_cell hg _).trans a4⟩) hCall
  have HI := hide hI; have HCe := hide hcell; have HCall := hide hCall; have HXl := hide hXl; have HG := hide hg; have HCS := hide hcs; have HAl := hide hAl; have HRow := hide hRow
  clear h0 hcell hCall hXl hI hg hcs hAl hRow
  unfold maxLen at hcm
  go_enter Tryz.func81, Tryz.ntmps81
  go_wp2_with fail
  refine (unhide HI).mono ?_
  rintro e w1 ⟨hF1, ⟨i, hin, rfl, hdi, hlt, hR1⟩ | ⟨rfl, hall, hR1⟩⟩
  · have HF1 := hide hF1; have HDI := hide hdi; have HLT := hide hlt; have HR1 := hide hR1
    clear hF1 hdi hlt hR1
    have hi1 : ((i : Int) == -1) = false := by simp
    go_wp2_with fail
    go_loopg [5, 6] (n - (i + 1)) (fun gk ip jp wr => ∃ (j : Nat) (cur : Array Value), jp = .int .i64 (j : Int) ∧ ip = .int .i64 ((keptN d j).length : Int) ∧ gk = n - j ∧ i < j ∧ j ≤ n ∧ R j wr ∧ (∀ z, z < w.heap.size → ¬ X z → z ≠ g → wr.heap[z]? = w.heap[z]?) ∧ w.heap.size ≤ wr.heap.size ∧ wr.os = w.os ∧ wr.tape = w.tape ∧ wr.output = w.output ∧
      wr.heap[g]? = some (.cells cur 161 (0, 0)) ∧ cur.size = cap * 5 ∧ (∀ t k, (keptN d j)[t]? = some k → At5 cur t (Value.int .i64 (kd k)) (Value.pointer (some ⟨x k, 0, none⟩)) (Value.int .i64 (r k)) (Value.int .i64 (bu k)) (Value.int .i64 (l k))) ∧ ∀ k, j ≤ k → k < n → At5 cur k (Value.int .i64 (kd k)) (Value.pointer (some ⟨x k, 0, none⟩)) (Value.int .i64 (r k)) (Value.int .i64 (bu k)) (Value.int .i64 (l k)))
    case atStart =>
      have hF := unhide HF1
      have hk : (keptN d (i + 1)).length = i := by
        rw [keptN_succ, if_pos (unhide HDI), keptN_all (unhide HLT)]; simp
      refine ⟨i + 1, cur0, by go_num, by rw [hk], rfl, Nat.lt_succ_self _, hin, unhide HR1, fun z h1 h2 _ => hF.blk z h1 h2, hF.size, hF.os, hF.tape, hF.output, (hF.blk g hgl hXg).trans (unhide HG), unhide HCS, fun t k hk' => ?_, fun k _ hk' => unhide HCe k hk'⟩
      rw [keptN_succ, if_pos (unhide HDI), keptN_all (unhide HLT)] at hk'
      have ht : t < i := by
        have := (List.getElem?_eq_some_iff.1 hk').1
        simpa using this
      have : k = t := by
        rw [List.getElem?_range ht] at hk'
        injection hk' with q; exact q.symm
      rw [this]
      exact unhide HCe t (by omega)
    case round =>
      obtain ⟨j, cur, hju, hiu, hgk, hij, hjn, hRj, hfr, hsz, hos, htp, hou, hgc, hcs, hK, hrest⟩ := hrel
      rw [hju, hiu]
      clear hju hiu
      have HGK := hide hgk; have HRj := hide hRj; have HFr := hide hfr; have HSz := hide hsz; have HOs := hide (And.intro hos (And.intro htp hou)); have HGc := hide hgc; have HCu := hide hcs; have HK := hide hK; have HRe := hide hrest
      have hkl := keptN_le d j
      have hgr : g < wr.heap.size := Nat.lt_of_lt_of_le hgl hsz
      clear hgk hRj hfr hsz hos htp hou hgc hcs hK hrest
      by_cases hj : j < n
      · have hji : (j : Int) < (n : Int) := by omega
        have hj0 : (0 : Int) ≤ (j : Int) := by omega
        obtain ⟨a0, a1, a2, a3, a4⟩ := unhide HRe j (Nat.le_refl _) hj
        have c0 := (heap_cell (unhide HGc) _).trans a0
        have c1 := (heap_cell (unhide HGc) _).trans a1
        have c2 := (heap_cell (unhide HGc) _).trans a2
        have c3 := (heap_cell (unhide HGc) _).trans a3
        have c4 := (heap_cell (unhide HGc) _).trans a4
        have HC := hide (unhide HCall j (wr.alloc (.cells #[(Value.int .i64 (kd j)), (Value.pointer (some ⟨x j, 0, none⟩)), (Value.int .i64 (r j)), (Value.int .i64 (bu j)), (Value.int .i64 (l j))] 161)) (unhide HAl _ _ _ (unhide HRj)) hj)
        generalize hv0 : kd j = v0 at c0 HC
        generalize hv1 : x j = v1 at c1 HC
        generalize hv2 : r j = v2 at c2 HC
        generalize hv3 : bu j = v3 at c3 HC
        generalize hv4 : l j = v4 at c4 HC
        have HV := hide (And.intro hv0 (And.intro hv1 (And.intro hv2 (And.intro hv3 hv4))))
        clear a0 a1 a2 a3 a4 hv0 hv1 hv2 hv3 hv4
        generalize hkp : (keptN d j).length = kp at hkl
        have HKP := hide hkp
        clear hkp
        go_wp2_with fail
        refine (unhide HC).mono ?_
        rintro e w3 ⟨rfl, hR3, hF3⟩
        have hz3 : w3.heap[wr.heap.size]? = some (.cells #[.int .i64 v0, .pointer (some ⟨v1, 0, none⟩), .int .i64 v2, .int .i64 v3, .int .i64 v4] 161) := (hF3.blk wr.heap.size (by simp) (fun q => by have := unhide HXl _ q; have := unhide HSz; omega)).trans (heap_alloc_new _ _)
        have hg3 : w3.heap[g]? = some (.cells cur 161 (0, 0)) := (hF3.blk g (by simp; omega) hXg).trans ((Below.heap_alloc _ _ _ hgr).trans (unhide HGc))
        have hfr3 : ∀ z, z < w.heap.size → ¬ X z → z ≠ g → w3.heap[z]? = w.heap[z]? := fun z h1 h2 h3 => by
          have hzr : z < wr.heap.size := Nat.lt_of_lt_of_le h1 (unhide HSz)
          exact (hF3.blk z (by simp; omega) h2).trans ((Below.heap_alloc _ _ _ hzr).trans (unhide HFr z h1 h2 h3))
        have hsz3 : w.heap.size ≤ w3.heap.size := by have := hF3.size; have := unhide HSz; simp at *; omega
        have hos3 : w3.os = w.os ∧ w3.tape = w.tape ∧ w3.output = w.output := by
          obtain ⟨x1, x2, x3⟩ := unhide HOs
          exact ⟨hF3.os.trans x1, hF3.tape.trans x2, hF3.output.trans x3⟩
        have n0 := heap_cell hz3 0; have n1 := heap_cell hz3 1; have n2 := heap_cell hz3 2; have n3 := heap_cell hz3 3; have n4 := heap_cell hz3 4
        simp at n0 n1 n2 n3 n4
        have HR3 := hide hR3; have HFr3 := hide hfr3; have HG3 := hide hg3; have HOs3 := hide hos3
        clear hR3 hF3 hfr3 hg3 hos3 hz3
        cases hd : d j with
        | true =>
          have HD := hide hd
          clear hd
          go_wp2_with fail
          go_roundg (n - (j + 1))
          case measure => rw [unhide HGK]; omega
          case rel =>
            have hks : keptN d (j + 1) = keptN d j := by rw [keptN_succ, if_pos (unhide HD)]
            obtain ⟨x1, x2, x3⟩ := unhide HOs3
            refine ⟨j + 1, cur, by go_num, by rw [hks, unhide HKP], rfl, by omega, hj, unhide HR3, unhide HFr3, hsz3, x1, x2, x3, unhide HG3, unhide HCu, fun t k hk => ?_, fun k h1 h2 => unhide HRe k (by omega) h2⟩
            rw [hks] at hk
            exact unhide HK t k hk
        | false =>
          have HD := hide hd
          clear hd
          have hkn : kp < n := by omega
          have i1 : (kp : Int) < (n : Int) := by omega
          have i0 : (0 : Int) ≤ (kp : Int) := by omega
          have hcb : cur.size = cap * 5 := unhide HCu
          obtain ⟨u0, g0, z0⟩ := cell_some (unhide HG3) (o := kp * 5) (by omega)
          obtain ⟨u1, g1, z1⟩ := cell_some (unhide HG3) (o := kp * 5 + 1) (by omega)
          obtain ⟨u2, g2, z2⟩ := cell_some (unhide HG3) (o := kp * 5 + 2) (by omega)
          obtain ⟨u3, g3, z3⟩ := cell_some (unhide HG3) (o := kp * 5 + 3) (by omega)
          obtain ⟨u4, g4, z4⟩ := cell_some (unhide HG3) (o := kp * 5 + 4) (by omega)
          have HCb := hide hcb
          clear hcb
          go_wp2_with fail
          go_roundg (n - (j + 1))
          case measure => rw [unhide HGK]; omega
          case rel =>
            have hks : keptN d (j + 1) = keptN d j ++ [j] := by rw [keptN_succ, if_neg (by rw [unhide HD]; simp)]
            obtain ⟨x1, x2, x3⟩ := unhide HOs3
            obtain ⟨y0, y1, y2, y3, y4⟩ := unhide HV
            obtain ⟨cur', b1, b2, ⟨b3, b4, b5, b6, b7⟩, b8⟩ := set5 (unhide HG3) (kp * 5) (.int .i64 v0) (.pointer (some ⟨v1, 0, none⟩)) (.int .i64 v2) (.int .i64 v3) (.int .i64 v4) (by have := unhide HCb; omega)
            obtain ⟨q1, q2⟩ := set5_oth w3 g (kp * 5) (.int .i64 v0) (.pointer (some ⟨v1, 0, none⟩)) (.int .i64 v2) (.int .i64 v3) (.int .i64 v4)
            refine ⟨j + 1, cur', by go_num, by rw [hks]; simp [unhide HKP], rfl, by omega, hj, unhide HRow _ _ _ (unhide HR3) hsz3 q1 q2 rfl rfl rfl, fun z h1 h2 h3 => (q1 z h3).trans (unhide HFr3 z h1 h2 h3), by rw [q2]; exact hsz3, x1, x2, x3, b1, b2.trans (unhide HCb), fun t k hk => ?_, fun k h1 h2 => ?_⟩
            · rw [hks] at hk
              rcases Nat.lt_or_ge t (keptN d j).length with ht | ht
              · rw [List.getElem?_append_left ht] at hk
                obtain ⟨c1, c2, c3, c4, c5⟩ := unhide HK t k hk
                have := unhide HKP
                exact ⟨(b8 _ (by omega)).trans c1, (b8 _ (by omega)).trans c2, (b8 _ (by omega)).trans c3, (b8 _ (by omega)).trans c4, (b8 _ (by omega)).trans c5⟩
              · rw [List.getElem?_append_right ht] at hk
                have ht' : t = (keptN d j).length := by
                  have := (List.getElem?_eq_some_iff.1 hk).1
                  simp at this; omega
                rw [ht'] at hk
                simp at hk
                rw [ht', unhide HKP, ← hk, y0, y1, y2, y3, y4]
                exact ⟨b3, b4, b5, b6, b7⟩
            · obtain ⟨c1, c2, c3, c4, c5⟩ := unhide HRe k (by omega) h2
              exact ⟨(b8 _ (by omega)).trans c1, (b8 _ (by omega)).trans c2, (b8 _ (by omega)).trans c3, (b8 _ (by omega)).trans c4, (b8 _ (by omega)).trans c5⟩
      · have hjn' : j = n := by omega
        subst hjn'
        have hkp1 : (keptN d j).length < j := kept_lt (unhide HDI) hij
        generalize hkp : (keptN d j).length = kp at hkl hkp1
        have HKP := hide hkp
        clear hkp
        have i1 : (kp : Int) ≤ (j : Int) := by omega
        have i0 : (0 : Int) ≤ (kp : Int) := by omega
        have i2 : (j : Int) ≤ (cap : Int) := by omega
        have i3 : (cap = kp) = False := by simp; omega
        have i4 : (kp : Int) ≤ (cap : Int) := by omega
        have i5 : kp ≤ cap := by omega
        obtain ⟨w2, hrun2, hset2⟩ : ∃ w2, (Builtin.clear_ #[52] 0 #[.slice (some ⟨g, kp * 5, none⟩) (j - kp) (cap - kp)]).run Tryz.prog wr = .ok (.tuple #[]) w2 ∧ RowSet wr w2 g 161 (cur.toList.take (kp * 5) ++ (Builtin.zeroCells (Value.agg #[.int .i64 0, .pointer none, .int .i64 0, .int .i64 0, .int .i64 0]).cells (j - kp)).toList ++ cur.toList.drop (kp * 5 + (Builtin.zeroCells (Value.agg #[.int .i64 0, .pointer none, .int .i64 0, .int .i64 0, .int .i64 0]).cells (j - kp)).toList.length)) := by
          have hcb := unhide HCu
          refine ⟨_, run_clear_row (P := Tryz.prog) wr 52 161 0 _ Tryz.underlying52 zero136 g (kp * 5) (j - kp) _ cur (unhide HGc) (by omega) ?_ ?_, rowSet (unhide HGc) _⟩
          · rw [zero_len]; simp [Value.cells]; omega
          · intro v hv
            have := zero_mem hv
            simp [Value.cells] at this
            rcases this with rfl | rfl | rfl | rfl | rfl <;> rfl
        have HSet2 := hide hset2
        clear hset2
        go_wp2_with fail
        go_ret
        have a2 := unhide HSet2
        have hcb := unhide HCu
        obtain ⟨x1, x2, x3⟩ := unhide HOs
        have hrow := row_of_at5 (cur := cur) (K := keptN d j) (by have := unhide HKP; omega) (unhide HK)
        rw [unhide HKP] at hrow
        refine ⟨_, rfl, ⟨kept_len, .inr ⟨g, cap, _, by rw [unhide HKP]; rfl, Nat.zero_le _, a2.at', by have := unhide HKP; omega, by unfold maxLen; omega, ?_, ?_⟩⟩, rfl, unhide HRow _ _ _ (unhide HRj) (unhide HSz) a2.oth a2.size a2.os a2.tape a2.output, fun z h1 h2 h3 => (a2.oth z h3).trans (unhide HFr z h1 h2 h3), by rw [a2.size]; exact unhide HSz, a2.os.trans x1, a2.tape.trans x2, a2.output.trans x3⟩
        · have hz := zero_len (Value.agg #[.int .i64 0, .pointer none, .int .i64 0, .int .i64 0, .int .i64 0]).cells (j - kp)
          have hz' : (Value.agg #[.int .i64 0, .pointer none, .int .i64 0, .int .i64 0, .int .i64 0]).cells.size = 5 := rfl
          rw [hz'] at hz
          simp only [List.size_toArray, List.length_append, List.length_take, List.length_drop, hz, Array.length_toList]
          omega
        · rw [unhide HKP]
          simp only [List.append_assoc]
          rw [List.take_append_of_le_length (by simp; omega), List.take_take, Nat.min_self]
          exact hrow
  · have HF1 := hide hF1; have HALL := hide hall; have HR1 := hide hR1
    clear hF1 hall hR1
    go_wp2_with fail
    go_ret
    have hF := unhide HF1
    refine ⟨_, rfl, ⟨?_, .inr ⟨g, cap, cur0, ?_, Nat.zero_le _, (hF.blk g hgl hXg).trans (unhide HG), ?_, ?_, unhide HCS, ?_⟩⟩, rfl, unhide HR1, fun z h1 h2 _ => hF.blk z h1 h2, hF.size, hF.os, hF.tape, hF.output⟩
    · rw [kept_len]
    · rw [keptN_all (unhide HALL)]; simp
    · rw [keptN_all (unhide HALL)]; simpa using hnc
    · unfold maxLen; omega
    · rw [keptN_all (unhide HALL)]
      refine row_of_at5 (by have := unhide HCS; simp; omega) fun t k hk => ?_
      have ht : t < n := by
        have := (List.getElem?_eq_some_iff.1 hk).1
        simpa using this
      have : k = t := by
        rw [List.getElem?_range ht] at hk
        injection hk with q; exact q.symm
      rw [this]
      exact unhide HCe t ht

set_option maxHeartbeats 1000000 in
theorem idx78_walk (g cap n : Nat) (z y : Addr) (a : Option Addr) (kd r bu l : Nat → Int) (x : Nat → Nat) (d : Nat → Bool) (X : Nat → Prop) (w : World) (R : Nat → World → Prop) (hn : n < 9000) (h0 : R 0 w)
    (hXl : ∀ z, X z → z < w.heap.size) (hXg : ¬ X g) (hgl : 0 < n → a = some ⟨g, 0, none⟩ ∧ g < w.heap.size)
    (hcell : ∀ k, k < n → w.cell? ⟨g, k * 5, none⟩ = some (Value.int .i64 (kd k)) ∧ w.cell? ⟨g, k * 5 + 1, none⟩ = some (Value.pointer (some ⟨x k, 0, none⟩)) ∧ w.cell? ⟨g, k * 5 + 2, none⟩ = some (Value.int .i64 (r k)) ∧ w.cell? ⟨g, k * 5 + 3, none⟩ = some (Value.int .i64 (bu k)) ∧ w.cell? ⟨g, k * 5 + 4, none⟩ = some (Value.int .i64 (l k)))
    (hCall : ∀ k W, R k W → k < n → Calls Tryz.prog 120 #[.agg #[(Value.int .i64 (kd k)), (Value.pointer (some ⟨x k, 0, none⟩)), (Value.int .i64 (r k)), (Value.int .i64 (bu k)), (Value.int .i64 (l k))], .pointer (some z), .pointer (some y)] W fun e w' => e = .returned (.bool (d k)) ∧ R (k + 1) w' ∧ Fr W w' X) :
    Calls Tryz.prog 121 #[.slice a n cap, .func (.func 120) #[] #[.pointer (some z), .pointer (some y)]] w fun e w' => Fr w w' X ∧ ((∃ i : Nat, i < n ∧ e = .returned (.int .i64 (i : Int)) ∧ d i = true ∧ (∀ k, k < i → d k = false) ∧ R (i + 1) w') ∨ (e = .returned (.int .i64 (-1)) ∧ (∀ k, k < n → d k = false) ∧ R n w')) := by
  have H0 := hide h0; have HGL := hide hgl; have HCe := hide hcell; have HCall := hide hCall; have HXl := hide hXl
  clear h0 hgl hcell hCall hXl
  go_enter Tryz.func121, Tryz.ntmps121
  go_wp2_with fail
  go_loopg [8] n (fun gk i wr => ∃ k : Nat, i = .int .i64 (k : Int) ∧ gk = n - k ∧ k ≤ n ∧ R k wr ∧ Fr w wr X ∧ ∀ j, j < k → d j = false)
  case atStart => exact ⟨0, rfl, rfl, Nat.zero_le _, unhide H0, Fr.refl _ _, fun j hj => absurd hj (Nat.not_lt_zero _)⟩
  case round =>
    obtain ⟨k, hu, hgk, hkn, hR, hF, hno⟩ := hrel
    rw [hu]
    clear hu
    have HR := hide hR; have HGK := hide hgk; have HF := hide hF; have HNO := hide hno
    clear hR hgk hF hno
    by_cases hk : k < n
    · have hki : (k : Int) < (n : Int) := by omega
      have hk0 : (0 : Int) ≤ (k : Int) := by omega
      obtain ⟨ha, hgs⟩ := unhide HGL (by omega)
      obtain ⟨c0, c1, c2, c3, c4⟩ := unhide HCe k hk
      have hgb := (unhide HF).blk g hgs hXg
      have c0 := (World.cell?_of_block (w := w) (a := ⟨g, k * 5, none⟩) hgb).trans c0
      have c1 := (World.cell?_of_block (w := w) (a := ⟨g, k * 5 + 1, none⟩) hgb).trans c1
      have c2 := (World.cell?_of_block (w := w) (a := ⟨g, k * 5 + 2, none⟩) hgb).trans c2
      have c3 := (World.cell?_of_block (w := w) (a := ⟨g, k * 5 + 3, none⟩) hgb).trans c3
      have c4 := (World.cell?_of_block (w := w) (a := ⟨g, k * 5 + 4, none⟩) hgb).trans c4
      have HC := hide (unhide HCall k wr (unhide HR) hk)
      generalize kd k = v0 at c0 HC
      generalize x k = v1 at c1 HC
      generalize r k = v2 at c2 HC
      generalize bu k = v3 at c3 HC
      generalize l k = v4 at c4 HC
      subst ha
      clear hgb
      go_wp2_with fail
      refine (unhide HC).mono ?_
      rintro e w1 ⟨rfl, hw1, hf1⟩
      have HW1 := hide hw1; have HF1 := hide ((unhide HF).trans hf1 (fun _ _ q => q))
      clear hw1 hf1
      cases hd : d k with
      | true =>
        have HD := hide hd
        clear hd
        go_wp2_with fail
        go_ret
        exact ⟨unhide HF1, .inl ⟨k, hk, rfl, unhide HD, unhide HNO, unhide HW1⟩⟩
      | false =>
        have HD := hide hd
        clear hd
        go_wp2_with fail
        go_roundg (n - (k + 1))
        case measure => rw [unhide HGK]; omega
        case rel =>
          refine ⟨k + 1, by go_num, rfl, by omega, unhide HW1, unhide HF1, fun j hj => ?_⟩
          rcases Nat.lt_or_ge j k with q | q
          · exact unhide HNO j q
          · rw [show j = k by omega]; exact unhide HD
    · have hki : (k : Int) = (n : Int) := by omega
      go_wp2_with fail
      go_ret
      have hkn' : k = n := by omega
      subst hkn'
      exact ⟨unhide HF, .inr ⟨rfl, unhide HNO, unhide HR⟩⟩

set_option maxHeartbeats 2000000 in
theorem delf78_walk (g cap n : Nat) (z y : Addr) (cur0 : Array Value) (kd r bu l : Nat → Int) (x : Nat → Nat) (d : Nat → Bool) (X : Nat → Prop) (w : World) (R : Nat → World → Prop) (hn : n < 9000) (hn0 : 0 < n) (hnc : n ≤ cap) (hcm : cap ≤ maxLen) (h0 : R 0 w)
    (hXl : ∀ z, X z → z < w.heap.size) (hXg : ¬ X g) (hg : w.heap[g]? = some (.cells cur0 161 (0, 0))) (hcs : cur0.size = cap * 5)
    (hcell : ∀ k, k < n → At5 cur0 k (Value.int .i64 (kd k)) (Value.pointer (some ⟨x k, 0, none⟩)) (Value.int .i64 (r k)) (Value.int .i64 (bu k)) (Value.int .i64 (l k)))
    (hAl : ∀ k W o, R k W → R k (W.alloc o)) (hRow : ∀ k W W', R k W → w.heap.size ≤ W.heap.size → (∀ j, j ≠ g → W'.heap[j]? = W.heap[j]?) → W'.heap.size = W.heap.size → W'.os = W.os → W'.tape = W.tape → W'.output = W.output → R k W')
    (hCall : ∀ k W, R k W → k < n → Calls Tryz.prog 120 #[.agg #[(Value.int .i64 (kd k)), (Value.pointer (some ⟨x k, 0, none⟩)), (Value.int .i64 (r k)), (Value.int .i64 (bu k)), (Value.int .i64 (l k))], .pointer (some z), .pointer (some y)] W fun e w' => e = .returned (.bool (d k)) ∧ R (k + 1) w' ∧ Fr W w' X) :
    Calls Tryz.prog 81 #[.slice (some ⟨g, 0, none⟩) n cap, .func (.func 120) #[] #[.pointer (some z), .pointer (some y)]] w fun e w' => ∃ v', e = .returned v' ∧ DFP w w' g n (fun k => .int .i64 (kd k)) (fun k => .pointer (some ⟨x k, 0, none⟩)) (fun k => .int .i64 (r k)) (fun k => .int .i64 (bu k)) (fun k => .int .i64 (l k)) d X (R n) v' := by
  have hgl : g < w.heap.size := (Array.getElem?_eq_some_iff.1 hg).1
  have hI := idx78_walk g cap n z y (some ⟨g, 0, none⟩) kd r bu l x d X w R hn h0 hXl hXg (fun _ => ⟨rfl, hgl⟩) (fun k hk => by
    obtain ⟨a0, a1, a2, a3, a4⟩ := hcell k hk
    exact ⟨(heap_cell hg _).trans a0, (heap_cell hg _).trans a1, (heap_cell hg _).trans a2, (heap_cell hg _).trans a3, (heap_cell hg _).trans a4⟩) hCall
  have HI := hide hI; have HCe := hide hcell; have HCall := hide hCall; have HXl := hide hXl; have HG := hide hg; have HCS := hide hcs; have HAl := hide hAl; have HRow := hide hRow
  clear h0 hcell hCall hXl hI hg hcs hAl hRow
  unfold maxLen at hcm
  go_enter Tryz.func81, Tryz.ntmps81
  go_wp2_with fail
  refine (unhide HI).mono ?_
  rintro e w1 ⟨hF1, ⟨i, hin, rfl, hdi, hlt, hR1⟩ | ⟨rfl, hall, hR1⟩⟩
  · have HF1 := hide hF1; have HDI := hide hdi; have HLT := hide hlt; have HR1 := hide hR1
    clear hF1 hdi hlt hR1
    have hi1 : ((i : Int) == -1) = false := by simp
    go_wp2_with fail
    go_loopg [5, 6] (n - (i + 1)) (fun gk ip jp wr => ∃ (j : Nat) (cur : Array Value), jp = .int .i64 (j : Int) ∧ ip = .int .i64 ((keptN d j).length : Int) ∧ gk = n - j ∧ i < j ∧ j ≤ n ∧ R j wr ∧ (∀ z, z < w.heap.size → ¬ X z → z ≠ g → wr.heap[z]? = w.heap[z]?) ∧ w.heap.size ≤ wr.heap.size ∧ wr.os = w.os ∧ wr.tape = w.tape ∧ wr.output = w.output ∧
      wr.heap[g]? = some (.cells cur 161 (0, 0)) ∧ cur.size = cap * 5 ∧ (∀ t k, (keptN d j)[t]? = some k → At5 cur t (Value.int .i64 (kd k)) (Value.pointer (some ⟨x k, 0, none⟩)) (Value.int .i64 (r k)) (Value.int .i64 (bu k)) (Value.int .i64 (l k))) ∧ ∀ k, j ≤ k → k < n → At5 cur k (Value.int .i64 (kd k)) (Value.pointer (some ⟨x k, 0, none⟩)) (Value.int .i64 (r k)) (Value.int .i64 (bu k)) (Value.int .i64 (l k)))
    case atStart =>
      have hF := unhide HF1
      have hk : (keptN d (i + 1)).length = i := by
        rw [keptN_succ, if_pos (unhide HDI), keptN_all (unhide HLT)]; simp
      refine ⟨i + 1, cur0, by go_num, by rw [hk], rfl, Nat.lt_succ_self _, hin, unhide HR1, fun z h1 h2 _ => hF.blk z h1 h2, hF.size, hF.os, hF.tape, hF.output, (hF.blk g hgl hXg).trans (unhide HG), unhide HCS, fun t k hk' => ?_, fun k _ hk' => unhide HCe k hk'⟩
      rw [keptN_succ, if_pos (unhide HDI), keptN_all (unhide HLT)] at hk'
      have ht : t < i := by
        have := (List.getElem?_eq_some_iff.1 hk').1
        simpa using this
      have : k = t := by
        rw [List.getElem?_range ht] at hk'
        injection hk' with q; exact q.symm
      rw [this]
      exact unhide HCe t (by omega)
    case round =>
      obtain ⟨j, cur, hju, hiu, hgk, hij, hjn, hRj, hfr, hsz, hos, htp, hou, hgc, hcs, hK, hrest⟩ := hrel
      rw [hju, hiu]
      clear hju hiu
      have HGK := hide hgk; have HRj := hide hRj; have HFr := hide hfr; have HSz := hide hsz; have HOs := hide (And.intro hos (And.intro htp hou)); have HGc := hide hgc; have HCu := hide hcs; have HK := hide hK; have HRe := hide hrest
      have hkl := keptN_le d j
      have hgr : g < wr.heap.size := Nat.lt_of_lt_of_le hgl hsz
      clear hgk hRj hfr hsz hos htp hou hgc hcs hK hrest
      by_cases hj : j < n
      · have hji : (j : Int) < (n : Int) := by omega
        have hj0 : (0 : Int) ≤ (j : Int) := by omega
        obtain ⟨a0, a1, a2, a3, a4⟩ := unhide HRe j (Nat.le_refl _) hj
        have c0 := (heap_cell (unhide HGc) _).trans a0
        have c1 := (heap_cell (unhide HGc) _).trans a1
        have c2 := (heap_cell (unhide HGc) _).trans a2
        have c3 := (heap_cell (unhide HGc) _).trans a3
        have c4 := (heap_cell (unhide HGc) _).trans a4
        have HC := hide (unhide HCall j (wr.alloc (.cells #[(Value.int .i64 (kd j)), (Value.pointer (some ⟨x j, 0, none⟩)), (Value.int .i64 (r j)), (Value.int .i64 (bu j)), (Value.int .i64 (l j))] 161)) (unhide HAl _ _ _ (unhide HRj)) hj)
        generalize hv0 : kd j = v0 at c0 HC
        generalize hv1 : x j = v1 at c1 HC
        generalize hv2 : r j = v2 at c2 HC
        generalize hv3 : bu j = v3 at c3 HC
        generalize hv4 : l j = v4 at c4 HC
        have HV := hide (And.intro hv0 (And.intro hv1 (And.intro hv2 (And.intro hv3 hv4))))
        clear a0 a1 a2 a3 a4 hv0 hv1 hv2 hv3 hv4
        generalize hkp : (keptN d j).length = kp at hkl
        have HKP := hide hkp
        clear hkp
        go_wp2_with fail
        refine (unhide HC).mono ?_
        rintro e w3 ⟨rfl, hR3, hF3⟩
        have hz3 : w3.heap[wr.heap.size]? = some (.cells #[.int .i64 v0, .pointer (some ⟨v1, 0, none⟩), .int .i64 v2, .int .i64 v3, .int .i64 v4] 161) := (hF3.blk wr.heap.size (by simp) (fun q => by have := unhide HXl _ q; have := unhide HSz; omega)).trans (heap_alloc_new _ _)
        have hg3 : w3.heap[g]? = some (.cells cur 161 (0, 0)) := (hF3.blk g (by simp; omega) hXg).trans ((Below.heap_alloc _ _ _ hgr).trans (unhide HGc))
        have hfr3 : ∀ z, z < w.heap.size → ¬ X z → z ≠ g → w3.heap[z]? = w.heap[z]? := fun z h1 h2 h3 => by
          have hzr : z < wr.heap.size := Nat.lt_of_lt_of_le h1 (unhide HSz)
          exact (hF3.blk z (by simp; omega) h2).trans ((Below.heap_alloc _ _ _ hzr).trans (unhide HFr z h1 h2 h3))
        have hsz3 : w.heap.size ≤ w3.heap.size := by have := hF3.size; have := unhide HSz; simp at *; omega
        have hos3 : w3.os = w.os ∧ w3.tape = w.tape ∧ w3.output = w.output := by
          obtain ⟨x1, x2, x3⟩ := unhide HOs
          exact ⟨hF3.os.trans x1, hF3.tape.trans x2, hF3.output.trans x3⟩
        have n0 := heap_cell hz3 0; have n1 := heap_cell hz3 1; have n2 := heap_cell hz3 2; have n3 := heap_cell hz3 3; have n4 := heap_cell hz3 4
        simp at n0 n1 n2 n3 n4
        have HR3 := hide hR3; have HFr3 := hide hfr3; have HG3 := hide hg3; have HOs3 := hide hos3
        clear hR3 hF3 hfr3 hg3 hos3 hz3
        cases hd : d j with
        | true =>
          have HD := hide hd
          clear hd
          go_wp2_with fail
          go_roundg (n - (j + 1))
          case measure => rw [unhide HGK]; omega
          case rel =>
            have hks : keptN d (j + 1) = keptN d j := by rw [keptN_succ, if_pos (unhide HD)]
            obtain ⟨x1, x2, x3⟩ := unhide HOs3
            refine ⟨j + 1, cur, by go_num, by rw [hks, unhide HKP], rfl, by omega, hj, unhide HR3, unhide HFr3, hsz3, x1, x2, x3, unhide HG3, unhide HCu, fun t k hk => ?_, fun k h1 h2 => unhide HRe k (by omega) h2⟩
            rw [hks] at hk
            exact unhide HK t k hk
        | false =>
          have HD := hide hd
          clear hd
          have hkn : kp < n := by omega
          have i1 : (kp : Int) < (n : Int) := by omega
          have i0 : (0 : Int) ≤ (kp : Int) := by omega
          have hcb : cur.size = cap * 5 := unhide HCu
          obtain ⟨u0, g0, z0⟩ := cell_some (unhide HG3) (o := kp * 5) (by omega)
          obtain ⟨u1, g1, z1⟩ := cell_some (unhide HG3) (o := kp * 5 + 1) (by omega)
          obtain ⟨u2, g2, z2⟩ := cell_some (unhide HG3) (o := kp * 5 + 2) (by omega)
          obtain ⟨u3, g3, z3⟩ := cell_some (unhide HG3) (o := kp * 5 + 3) (by omega)
          obtain ⟨u4, g4, z4⟩ := cell_some (unhide HG3) (o := kp * 5 + 4) (by omega)
          have HCb := hide hcb
          clear hcb
          go_wp2_with fail
          go_roundg (n - (j + 1))
          case measure => rw [unhide HGK]; omega
          case rel =>
            have hks : keptN d (j + 1) = keptN d j ++ [j] := by rw [keptN_succ, if_neg (by rw [unhide HD]; simp)]
            obtain ⟨x1, x2, x3⟩ := unhide HOs3
            obtain ⟨y0, y1, y2, y3, y4⟩ := unhide HV
            obtain ⟨cur', b1, b2, ⟨b3, b4, b5, b6, b7⟩, b8⟩ := set5 (unhide HG3) (kp * 5) (.int .i64 v0) (.pointer (some ⟨v1, 0, none⟩)) (.int .i64 v2) (.int .i64 v3) (.int .i64 v4) (by have := unhide HCb; omega)
            obtain ⟨q1, q2⟩ := set5_oth w3 g (kp * 5) (.int .i64 v0) (.pointer (some ⟨v1, 0, none⟩)) (.int .i64 v2) (.int .i64 v3) (.int .i64 v4)
            refine ⟨j + 1, cur', by go_num, by rw [hks]; simp [unhide HKP], rfl, by omega, hj, unhide HRow _ _ _ (unhide HR3) hsz3 q1 q2 rfl rfl rfl, fun z h1 h2 h3 => (q1 z h3).trans (unhide HFr3 z h1 h2 h3), by rw [q2]; exact hsz3, x1, x2, x3, b1, b2.trans (unhide HCb), fun t k hk => ?_, fun k h1 h2 => ?_⟩
            · rw [hks] at hk
              rcases Nat.lt_or_ge t (keptN d j).length with ht | ht
              · rw [List.getElem?_append_left ht] at hk
                obtain ⟨c1, c2, c3, c4, c5⟩ := unhide HK t k hk
                have := unhide HKP
                exact ⟨(b8 _ (by omega)).trans c1, (b8 _ (by omega)).trans c2, (b8 _ (by omega)).trans c3, (b8 _ (by omega)).trans c4, (b8 _ (by omega)).trans c5⟩
              · rw [List.getElem?_append_right ht] at hk
                have ht' : t = (keptN d j).length := by
                  have := (List.getElem?_eq_some_iff.1 hk).1
                  simp at this; omega
                rw [ht'] at hk
                simp at hk
                rw [ht', unhide HKP, ← hk, y0, y1, y2, y3, y4]
                exact ⟨b3, b4, b5, b6, b7⟩
            · obtain ⟨c1, c2, c3, c4, c5⟩ := unhide HRe k (by omega) h2
              exact ⟨(b8 _ (by omega)).trans c1, (b8 _ (by omega)).trans c2, (b8 _ (by omega)).trans c3, (b8 _ (by omega)).trans c4, (b8 _ (by omega)).trans c5⟩
      · have hjn' : j = n := by omega
        subst hjn'
        have hkp1 : (keptN d j).length < j := kept_lt (unhide HDI) hij
        generalize hkp : (keptN d j).length = kp at hkl hkp1
        have HKP := hide hkp
        clear hkp
        have i1 : (kp : Int) ≤ (j : Int) := by omega
        have i0 : (0 : Int) ≤ (kp : Int) := by omega
        have i2 : (j : Int) ≤ (cap : Int) := by omega
        have i3 : (cap = kp) = False := by simp; omega
        have i4 : (kp : Int) ≤ (cap : Int) := by omega
        have i5 : kp ≤ cap := by omega
        obtain ⟨w2, hrun2, hset2⟩ : ∃ w2, (Builtin.clear_ #[52] 0 #[.slice (some ⟨g, kp * 5, none⟩) (j - kp) (cap - kp)]).run Tryz.prog wr = .ok (.tuple #[]) w2 ∧ RowSet wr w2 g 161 (cur.toList.take (kp * 5) ++ (Builtin.zeroCells (Value.agg #[.int .i64 0, .pointer none, .int .i64 0, .int .i64 0, .int .i64 0]).cells (j - kp)).toList ++ cur.toList.drop (kp * 5 + (Builtin.zeroCells (Value.agg #[.int .i64 0, .pointer none, .int .i64 0, .int .i64 0, .int .i64 0]).cells (j - kp)).toList.length)) := by
          have hcb := unhide HCu
          refine ⟨_, run_clear_row (P := Tryz.prog) wr 52 161 0 _ Tryz.underlying52 zero136 g (kp * 5) (j - kp) _ cur (unhide HGc) (by omega) ?_ ?_, rowSet (unhide HGc) _⟩
          · rw [zero_len]; simp [Value.cells]; omega
          · intro v hv
            have := zero_mem hv
            simp [Value.cells] at this
            rcases this with rfl | rfl | rfl | rfl | rfl <;> rfl
        have HSet2 := hide hset2
        clear hset2
        go_wp2_with fail
        go_ret
        have a2 := unhide HSet2
        have hcb := unhide HCu
        obtain ⟨x1, x2, x3⟩ := unhide HOs
        have hrow := row_of_at5 (cur := cur) (K := keptN d j) (by have := unhide HKP; omega) (unhide HK)
        rw [unhide HKP] at hrow
        refine ⟨_, rfl, ⟨kept_len, .inr ⟨g, cap, _, by rw [unhide HKP]; rfl, Nat.zero_le _, a2.at', by have := unhide HKP; omega, by unfold maxLen; omega, ?_, ?_⟩⟩, rfl, unhide HRow _ _ _ (unhide HRj) (unhide HSz) a2.oth a2.size a2.os a2.tape a2.output, fun z h1 h2 h3 => (a2.oth z h3).trans (unhide HFr z h1 h2 h3), by rw [a2.size]; exact unhide HSz, a2.os.trans x1, a2.tape.trans x2, a2.output.trans x3⟩
        · have hz := zero_len (Value.agg #[.int .i64 0, .pointer none, .int .i64 0, .int .i64 0, .int .i64 0]).cells (j - kp)
          have hz' : (Value.agg #[.int .i64 0, .pointer none, .int .i64 0, .int .i64 0, .int .i64 0]).cells.size = 5 := rfl
          rw [hz'] at hz
          simp only [List.size_toArray, List.length_append, List.length_take, List.length_drop, hz, Array.length_toList]
          omega
        · rw [unhide HKP]
          simp only [List.append_assoc]
          rw [List.take_append_of_le_length (by simp; omega), List.take_take, Nat.min_self]
          exact hrow
  · have HF1 := hide hF1; have HALL := hide hall; have HR1 := hide hR1
    clear hF1 hall hR1
    go_wp2_with fail
    go_ret
    have hF := unhide HF1
    refine ⟨_, rfl, ⟨?_, .inr ⟨g, cap, cur0, ?_, Nat.zero_le _, (hF.blk g hgl hXg).trans (unhide HG), ?_, ?_, unhide HCS, ?_⟩⟩, rfl, unhide HR1, fun z h1 h2 _ => hF.blk z h1 h2, hF.size, hF.os, hF.tape, hF.output⟩
    · rw [kept_len]
    · rw [keptN_all (unhide HALL)]; simp
    · rw [keptN_all (unhide HALL)]; simpa using hnc
    · unfold maxLen; omega
    · rw [keptN_all (unhide HALL)]
      refine row_of_at5 (by have := unhide HCS; simp; omega) fun t k hk => ?_
      have ht : t < n := by
        have := (List.getElem?_eq_some_iff.1 hk).1
        simpa using this
      have : k = t := by
        rw [List.getElem?_range ht] at hk
        injection hk with q; exact q.symm
      rw [this]
      exact unhide HCe t ht
end Go.Proofs.YtogdekjklbbbiaaGreatDoor
