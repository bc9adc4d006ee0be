import Derived.Test.YtogdekjklbbbiaaDoorBf
import Derived.Test.YtogdekjklbbbiaaDoorOge
set_option maxRecDepth 100000
namespace Go.Proofs.YtogdekjklbbbiaaDoor
open Go.ChangeShapes Go.WideShapes Go.ChangeAt Go.RowKit
set_option linter.unusedSimpArgs false
set_option linter.unusedVariables false

theorem rel_each {s : Pace.St} (h : Pace.PI s []) (n : Nat) : ∀ q ∈ (Pace.rel n s).1, (∃ x ∈ s.fl, x.num = q.1) ∧ 0 < q.2.2.length ∧ q.2.2.length ≤ 8 ∧ ∀ pk ∈ q.2.2, 1 ≤ pk.2 ∧ pk.2 ≤ 1500 := by
  induction n generalizing s with
  | zero => intro q hq; cases hq
  | succ n ih =>
    unfold Pace.rel
    split
    · intro q hq; cases hq
    · rename_i a e
      obtain ⟨q1, q2⟩ := Pace.due_some e
      obtain ⟨x, hx, hxn, hlx, hk, hk2, hgot, hsent, hfl, h'⟩ := h.send (Pace.best_some q1).1 q2
      intro q hq
      rcases List.mem_cons.1 hq with rfl | hq
      · rw [hsent]
        have h8 := (h.wf.F x hx).few
        have hadm := (h.wf.F x hx).adm
        refine ⟨⟨x, hx, hxn⟩, ?_, ?_, fun pk hpk => (h.wf.F x hx).lens pk (List.mem_of_mem_take hpk)⟩
        · show 0 < (x.pk.take a.k).length
          rw [List.length_take]; omega
        · show (x.pk.take a.k).length ≤ 8
          rw [List.length_take]; omega
      · obtain ⟨⟨y, hy, hyn⟩, r⟩ := ih h' q hq
        refine ⟨?_, r⟩
        have hm : y.num ∈ (Pace.send s a).2.fl.map (·.num) := List.mem_map.2 ⟨y, hy, rfl⟩
        rw [Pace.send_nums] at hm
        obtain ⟨z, hz, e⟩ := List.mem_map.1 hm
        exact ⟨z, hz, e.trans hyn⟩
theorem sumP_bytes (l : List (Int × Nat)) : ∀ j, j ≤ l.length → sumP (fun j => ((l.getD j (0, 0)).2 : Int)) j = (Pace.bytes (l.take j) : Int) := by
  intro j
  induction j with
  | zero => intro _; simp [sumP, Pace.bytes]
  | succ j ih =>
    intro hj
    have e : l.take (j + 1) = l.take j ++ [l.getD j (0, 0)] := by
      rw [List.take_add_one, List.getD, List.getElem?_eq_getElem (by omega)]; rfl
    rw [e, Pace.bytes_append]
    simp only [sumP]
    rw [ih (by omega)]
    simp [Pace.bytes]
theorem sumB_bytes (bs : List Bt) (f : Nat) : ∀ i, i ≤ bs.length → sumB (bvOf (bs.map up)) f i = (Pace.bytes (Pace.pksOf (f + 1) (bs.take i)) : Int) := by
  intro i
  induction i with
  | zero => intro _; simp [sumB, Pace.pksOf, Pace.bytes]
  | succ i ih =>
    intro hi
    obtain ⟨q, hq⟩ : ∃ q, bs[i]? = some q := ⟨_, List.getElem?_eq_getElem (by omega)⟩
    have e : bs.take (i + 1) = bs.take i ++ [q] := by rw [List.take_add_one, hq]; rfl
    have hg : (bs.map up).getD i btD = up q := by rw [List.getD, List.getElem?_map, hq]; rfl
    simp only [sumB]
    rw [ih (by omega), e]
    have hp : Pace.pksOf (f + 1) (bs.take i ++ [q]) = Pace.pksOf (f + 1) (bs.take i) ++ (if q.1 = f + 1 then q.2.2 else []) := by
      simp only [Pace.pksOf, List.filter_append, List.flatMap_append]
      congr 1
      by_cases e : q.1 = f + 1
      · simp [e]
      · simp [e]
    rw [hp, Pace.bytes_append]
    have hfl : (bvOf (bs.map up)).fl i = (q.1 : Int) := by show (((bs.map up).getD i btD).1 : Int) = _; rw [hg]; rfl
    have hle : (bvOf (bs.map up)).le i = fun j => ((q.2.2.getD j (0, 0)).2 : Int) := by
      funext j
      show ((((bs.map up).getD i btD).2.2.getD j (0, 0)).2 : Int) = _
      rw [hg]; rfl
    have hln : (bvOf (bs.map up)).ln i = q.2.2.length := by show ((bs.map up).getD i btD).2.2.length = _; rw [hg]; rfl
    rw [hfl, hle, hln]
    by_cases e : q.1 = f + 1
    · rw [if_pos (by omega), if_pos e, sumP_bytes _ _ (Nat.le_refl _), List.take_length]
      omega
    · rw [if_neg (by omega), if_neg e]
      simp [Pace.bytes]
theorem gone_length {l : List Pace.Fl} (h : (l.map (·.num)).Nodup) (f : Nat) : l.length ≤ (Pace.gone l f).length + 1 := by
  induction l with
  | nil => simp
  | cons x l ih =>
    simp only [List.map_cons, List.nodup_cons] at h
    have h1 := ih h.2
    by_cases e : x.num = f
    · have e2 : Pace.gone (x :: l) f = Pace.gone l f := by simp [Pace.gone, e]
      have e3 : Pace.gone l f = l := by
        unfold Pace.gone
        rw [List.filter_eq_self]
        intro y hy
        have : y.num ≠ f := fun q => h.1 (List.mem_map.2 ⟨y, hy, q.trans e.symm⟩)
        simpa using this
      rw [e2, e3, List.length_cons]
      exact Nat.le_refl _
    · have e2 : Pace.gone (x :: l) f = x :: Pace.gone l f := by simp [Pace.gone, e]
      rw [e2, List.length_cons, List.length_cons]
      omega

/-! ### What the watcher holds -/
def xOf (L : List Pace.En) (ga gb gy : Nat → Nat) (i : Nat) : List Value := (List.range L.length).map fun j => if i = 0 then .int .i64 ((Pace.at' L j).ck : Int) else if i = 1 then .slice (some ⟨ga j, 0, none⟩) (Pace.at' L j).n (Pace.at' L j).n else if i = 2 then .slice (some ⟨gb j, 0, none⟩) (Pace.at' L j).n (Pace.at' L j).n else .slice (some ⟨gy j, 0, none⟩) (Pace.at' L j).n (Pace.at' L j).n
theorem xOf_length (L : List Pace.En) (ga gb gy : Nat → Nat) (i : Nat) : (xOf L ga gb gy i).length = L.length := by simp [xOf]
theorem xOf_get {L : List Pace.En} {ga gb gy : Nat → Nat} {i j : Nat} (h : j < L.length) : (xOf L ga gb gy i)[j]? = some (if i = 0 then .int .i64 ((Pace.at' L j).ck : Int) else if i = 1 then .slice (some ⟨ga j, 0, none⟩) (Pace.at' L j).n (Pace.at' L j).n else if i = 2 then .slice (some ⟨gb j, 0, none⟩) (Pace.at' L j).n (Pace.at' L j).n else .slice (some ⟨gy j, 0, none⟩) (Pace.at' L j).n (Pace.at' L j).n) := by
  simp [xOf, h]
theorem xOf_snoc (L : List Pace.En) (e : Pace.En) (ga gb gy : Nat → Nat) (a b y i : Nat) : xOf (L ++ [e]) (upd ga L.length a) (upd gb L.length b) (upd gy L.length y) i = xOf L ga gb gy i ++ [if i = 0 then .int .i64 (e.ck : Int) else if i = 1 then .slice (some ⟨a, 0, none⟩) e.n e.n else if i = 2 then .slice (some ⟨b, 0, none⟩) e.n e.n else .slice (some ⟨y, 0, none⟩) e.n e.n] := by
  unfold xOf
  rw [List.length_append, List.length_singleton, List.range_succ, List.map_append]
  congr 1
  · apply List.map_congr_left
    intro j hj
    have hj' := List.mem_range.1 hj
    rw [Pace.at_old hj']
    simp only [upd, if_neg (show j ≠ L.length by omega)]
  · simp only [List.map_cons, List.map_nil, Pace.at_new, upd_same]
/-- The tracks. -/
def nrOf (l : List (Nat × Nat)) (i : Nat) : Int := ((l.getD i (0, 0)).1 : Int)
def nbOf (l : List (Nat × Nat)) (i : Nat) : Int := ((l.getD i (0, 0)).2 : Int)
structure WS (w wr : World) (z : Nat) (al : Option Addr) (m cl gt sz : Nat) (l : List (Nat × Nat)) (L : List Pace.En) (v : Nat → Value) (ga gb gy : Nat → Nat) (F : Nat → Prop) : Prop where
  z4 : wr.heap[w.heap.size]? = some (.cells #[.slice none 0 0, .slice none 0 0, .slice none 0 0, .slice none 0 0] 45)
  zF : ¬ F w.heap.size
  len : m = l.length
  al0 : m = 0 → al = none ∧ cl = 0
  al1 : 0 < m → al = some ⟨gt, 0, none⟩ ∧ m ≤ cl ∧ cl ≤ maxLen ∧ sz = cl * 6
  tk : TK wr gt m sz (nrOf l) (nbOf l)
  gF : 0 < m → ¬ F gt ∧ w.heap.size < gt
  s4 : S4 wr z v (xOf L ga gb gy) (fun _ => L.length)
  sF : ∀ k, S4.own z v k → ¬ F k ∧ w.heap.size < k ∧ (0 < m → k ≠ gt)
  rows : ∀ i, i < L.length → RW wr (ga i) (Pace.at' L i).n (fun f => ((Pace.at' L i).rt f : Int)) ∧ RW wr (gb i) (Pace.at' L i).n (fun f => ((Pace.at' L i).bu f : Int)) ∧ RW wr (gy i) (Pace.at' L i).n (fun f => ((Pace.at' L i).bt f : Int))
  rF : ∀ i, i < L.length → ∀ g, (g = ga i ∨ g = gb i ∨ g = gy i) → ¬ F g ∧ w.heap.size < g ∧ (0 < m → g ≠ gt) ∧ ¬ S4.own z v g
theorem S4.olt {w : World} {S : Nat} {v : Nat → Value} {x : Nat → List Value} {T : Nat → Nat} (h : S4 w S v x T) {k : Nat} (hk : S4.own S v k) : k < w.heap.size := by
  rcases hk with rfl | ⟨i, hi, q⟩
  · exact h.lt
  · exact ((h.r i hi).lt k q).2
theorem WS.kept {w wr w' : World} {z : Nat} {al : Option Addr} {m cl gt sz : Nat} {l : List (Nat × Nat)} {L : List Pace.En} {v : Nat → Value} {ga gb gy : Nat → Nat} {F F' : Nat → Prop} (h : WS w wr z al m cl gt sz l L v ga gb gy F) (hf : Fr wr w' F) (hF : ∀ k, k < wr.heap.size → F' k → F k) : WS w w' z al m cl gt sz l L v ga gb gy F' := by
  have hz : w.heap.size < wr.heap.size := (Array.getElem?_eq_some_iff.1 h.z4).1
  have hs : ∀ k, S4.own z v k → w'.heap[k]? = wr.heap[k]? := fun k hk => hf.blk k (h.s4.olt hk) (h.sF k hk).1
  refine ⟨(hf.blk _ hz h.zF).trans h.z4, fun q => h.zF (hF _ hz q), h.len, h.al0, h.al1, h.tk.kept fun h0 => hf.blk gt (h.tk.lt h0) (h.gF h0).1, fun h0 => ⟨fun q => (h.gF h0).1 (hF _ (h.tk.lt h0) q), (h.gF h0).2⟩, h.s4.kept (hs z (.inl rfl)) fun i hi g hg => hs g (.inr ⟨i, hi, hg⟩), fun k hk => ⟨fun q => (h.sF k hk).1 (hF k (h.s4.olt hk) q), (h.sF k hk).2⟩, fun i hi => ?_, fun i hi g hg => ?_⟩
  · obtain ⟨r1, r2, r3⟩ := h.rows i hi
    exact ⟨r1.kept (hf.blk _ r1.lt (h.rF i hi _ (.inl rfl)).1), r2.kept (hf.blk _ r2.lt (h.rF i hi _ (.inr (.inl rfl))).1), r3.kept (hf.blk _ r3.lt (h.rF i hi _ (.inr (.inr rfl))).1)⟩
  · obtain ⟨r1, r2, r3⟩ := h.rows i hi
    have hlt : g < wr.heap.size := by
      rcases hg with rfl | rfl | rfl
      · exact r1.lt
      · exact r2.lt
      · exact r3.lt
    exact ⟨fun q => (h.rF i hi g hg).1 (hF g hlt q), (h.rF i hi g hg).2⟩
end Go.Proofs.YtogdekjklbbbiaaDoor

namespace Go.Proofs.YtogdekjklbbbiaaDoor
open Go.ChangeShapes Go.WideShapes Go.ChangeAt Go.RowKit
set_option linter.unusedSimpArgs false
set_option linter.unusedVariables false

/-- The tracks' row. -/
theorem WS.row {w wr : World} {z : Nat} {al : Option Addr} {m cl gt sz : Nat} {l : List (Nat × Nat)} {L : List Pace.En} {v : Nat → Value} {ga gb gy : Nat → Nat} {F : Nat → Prop} (h : WS w wr z al m cl gt sz l L v ga gb gy F) : ∃ xs, wr.ownsRow 0 105 6 (.slice al m cl) m xs ∧ ∀ j, j < m * 6 → xs[j]? = wr.cell? ⟨gt, j, none⟩ := by
  rcases Nat.eq_zero_or_pos m with h0 | h0
  · obtain ⟨rfl, rfl⟩ := h.al0 h0
    subst h0
    exact ⟨[], World.ownsRow_nil _ _ _ _, fun j hj => by omega⟩
  · obtain ⟨rfl, h1, h2, h3⟩ := h.al1 h0
    obtain ⟨cur, k1, k2⟩ := h.tk.sh h0
    have hle : m * 6 ≤ cur.size := by rw [k2, h3]; exact Nat.mul_le_mul_right 6 h1
    refine ⟨cur.toList.take (m * 6), ⟨by rw [List.length_take, Array.length_toList]; omega, .inr ⟨gt, cl, cur, rfl, Nat.zero_le _, k1, h1, h2, by rw [k2, h3], rfl⟩⟩, fun j hj => ?_⟩
    rw [heap_cell k1, List.getElem?_take, if_pos hj]
    simp
theorem getD_snoc {l : List (Nat × Nat)} {a : Nat × Nat} {i : Nat} : (l ++ [a]).getD i (0, 0) = if i = l.length then a else l.getD i (0, 0) := by
  by_cases e : i = l.length
  · subst e; simp [List.getD]
  · rw [if_neg e]
    simp only [List.getD]
    by_cases e2 : i < l.length
    · rw [List.getElem?_append_left e2]
    · rw [List.getElem?_append_right (by omega), List.getElem?_eq_none (by simp; omega), List.getElem?_eq_none (by omega)]
theorem getD_set {l : List (Nat × Nat)} {a : Nat × Nat} {i j : Nat} (hi : i < l.length) : (l.set i a).getD j (0, 0) = if j = i then a else l.getD j (0, 0) := by
  simp only [List.getD, List.getElem?_set]
  by_cases e : i = j
  · subst e; simp [hi]
  · rw [if_neg e, if_neg (fun q => e q.symm)]
/-- A track is put behind. -/
theorem WS.app {w wr w'' : World} {z : Nat} {al al' : Option Addr} {m cl cl' gt sz : Nat} {l : List (Nat × Nat)} {L : List Pace.En} {v : Nat → Value} {ga gb gy : Nat → Nat} {F : Nat → Prop} (h : WS w wr z al m cl gt sz l L v ga gb gy F) (hFl : ∀ k, F k → k < wr.heap.size) {xs : List Value} (hxs : ∀ j, j < m * 6 → xs[j]? = wr.cell? ⟨gt, j, none⟩) (hxl : xs.length = m * 6) (ob : Obj) (a r b : Nat) {u0 : Value}
    (hown : w''.ownsRow 0 105 6 (.slice al' (m + 1) cl') (m + 1) (xs ++ [u0, .int .i64 0, .int .i64 (b : Int), .int .i64 (r : Int), .int .i64 (b : Int), .bool true]))
    (hg : ((Value.slice al' (m + 1) cl').ownBlock = (Value.slice al m cl).ownBlock ∧ (wr.alloc ob).grownBy w'' (Value.slice al m cl).ownBlock) ∨ ((Value.slice al' (m + 1) cl').ownBlock = some (wr.alloc ob).heap.size ∧ (wr.alloc ob).grownBy w'' none)) :
    ∃ gt' sz', WS w w'' z al' (m + 1) cl' gt' sz' (l ++ [(r, b)]) L v ga gb gy F ∧ Fr wr w'' (fun k => k = gt ∧ 0 < m) := by
  have hz : w.heap.size < wr.heap.size := (Array.getElem?_eq_some_iff.1 h.z4).1
  have hsz : wr.heap.size < (wr.alloc ob).heap.size := by simp
  have hob : (Value.slice al m cl).ownBlock = if 0 < m then some gt else none := by
    rcases Nat.eq_zero_or_pos m with h0 | h0
    · obtain ⟨rfl, rfl⟩ := h.al0 h0; rw [if_neg (by omega)]; rfl
    · obtain ⟨rfl, _⟩ := h.al1 h0; rw [if_pos h0]; rfl
  have hblk : ∀ k, k < wr.heap.size → (k = gt → ¬ 0 < m) → w''.heap[k]? = wr.heap[k]? := fun k hk hn => by
    have hn' : (Value.slice al m cl).ownBlock ≠ some k := fun e => by
      rw [hob] at e
      by_cases h0 : 0 < m
      · rw [if_pos h0] at e; injection e with e; exact hn e.symm h0
      · rw [if_neg h0] at e; cases e
    rw [app_blk hg (by omega) (fun e => absurd e hn'), Below.heap_alloc _ _ _ hk]
  obtain ⟨gt', cap, hv, _, hlt', hob', hmc, hcm⟩ := row_shape hown (by omega)
  injection hv with hv1 hv2 hv3
  subst hv1 hv3
  have hgt' : (gt' = gt ∧ 0 < m) ∨ wr.heap.size < gt' := by
    rcases hg with ⟨q, _⟩ | ⟨q, _⟩
    · rw [hob', hob] at q
      by_cases h0 : 0 < m
      · rw [if_pos h0] at q; injection q with q; exact .inl ⟨q, h0⟩
      · rw [if_neg h0] at q; cases q
    · rw [hob'] at q; injection q with q; exact .inr (by omega)
  have hcell : ∀ j u, (xs ++ [u0, Value.int .i64 0, .int .i64 (b : Int), .int .i64 (r : Int), .int .i64 (b : Int), .bool true])[j]? = some u → w''.cell? ⟨gt', j, none⟩ = some u := fun j u hu => row_get0 hown hob' hu
  have hsh : ∃ cur, w''.heap[gt']? = some (.cells cur 105) ∧ cur.size = cl' * 6 := by
    rcases hown.2 with ⟨_, q⟩ | ⟨g, cp, cur, q, _, k1, _, _, k2, _⟩
    · omega
    · injection q with q1 q2 q3
      injection q1 with q1
      injection q1 with q1
      subst q1 q3
      exact ⟨cur, k1, k2⟩
  have hold : ∀ i, i < m → ∀ c, c < 6 → (xs ++ [u0, Value.int .i64 0, .int .i64 (b : Int), .int .i64 (r : Int), .int .i64 (b : Int), .bool true])[i * 6 + c]? = wr.cell? ⟨gt, i * 6 + c, none⟩ := fun i hi c hc => by
    rw [List.getElem?_append_left (by omega)]; exact hxs _ (by omega)
  have hnew : ∀ c, c < 6 → (xs ++ [u0, Value.int .i64 0, .int .i64 (b : Int), .int .i64 (r : Int), .int .i64 (b : Int), .bool true])[m * 6 + c]? = [u0, Value.int .i64 0, .int .i64 (b : Int), .int .i64 (r : Int), .int .i64 (b : Int), .bool true][c]? := fun c hc => by
    rw [List.getElem?_append_right (by omega), hxl]
    congr 1
    omega
  have hlen := h.len
  have hgw : w.heap.size < gt' := by
    rcases hgt' with ⟨rfl, h0⟩ | q
    · exact (h.gF h0).2
    · omega
  have hgF : ¬ F gt' := fun q => by
    rcases hgt' with ⟨rfl, h0⟩ | q2
    · exact (h.gF h0).1 q
    · have := hFl _ q; omega
  have hkeep : ∀ k, k < wr.heap.size → (0 < m → k ≠ gt) → w''.heap[k]? = wr.heap[k]? := fun k hk hn => hblk k hk fun e h0 => hn h0 e
  have hkne : ∀ k, k < wr.heap.size → (0 < m → k ≠ gt) → k ≠ gt' := fun k hk hn e => by
    rcases hgt' with ⟨q, h0⟩ | q
    · exact hn h0 (e.trans q)
    · omega
  refine ⟨gt', cl' * 6, ⟨(hkeep _ hz fun h0 e => by have := (h.gF h0).2; omega).trans h.z4, h.zF, by rw [List.length_append]; simp; exact hlen, fun h0 => by omega, fun _ => ⟨rfl, hmc, hcm, rfl⟩, ⟨fun _ => hlt', fun o _ => ?_, fun i hi => ?_, fun i hi => ?_, fun i hi => ?_, fun i hi => ?_, fun _ => hsh⟩, fun _ => ⟨hgF, hgw⟩, ?_, fun k hk => ⟨(h.sF k hk).1, (h.sF k hk).2.1, fun _ => hkne k (h.s4.olt hk) (h.sF k hk).2.2⟩, fun i hi => ?_, fun i hi g hg' => ?_⟩, ?_⟩
  · obtain ⟨cur, k1, _⟩ := hsh
    simp [World.frozen?, k1]
  · by_cases e : i = m
    · subst e; exact ⟨_, hcell _ _ ((hnew 1 (by omega)).trans rfl)⟩
    · obtain ⟨u, hu⟩ := h.tk.c1 i (by omega)
      exact ⟨u, hcell _ _ ((hold i (by omega) 1 (by omega)).trans hu)⟩
  · by_cases e : i = m
    · subst e; exact ⟨_, hcell _ _ ((hnew 2 (by omega)).trans rfl)⟩
    · obtain ⟨u, hu⟩ := h.tk.c2 i (by omega)
      exact ⟨u, hcell _ _ ((hold i (by omega) 2 (by omega)).trans hu)⟩
  · unfold nrOf
    rw [getD_snoc]
    by_cases e : i = m
    · subst e; rw [if_pos hlen]; exact hcell _ _ ((hnew 3 (by omega)).trans rfl)
    · rw [if_neg (by omega)]
      exact hcell _ _ ((hold i (by omega) 3 (by omega)).trans (h.tk.c3 i (by omega)))
  · unfold nbOf
    rw [getD_snoc]
    by_cases e : i = m
    · subst e; rw [if_pos hlen]; exact hcell _ _ ((hnew 4 (by omega)).trans rfl)
    · rw [if_neg (by omega)]
      exact hcell _ _ ((hold i (by omega) 4 (by omega)).trans (h.tk.c4 i (by omega)))
  · exact h.s4.kept (hkeep z h.s4.lt (h.sF z (.inl rfl)).2.2) fun i hi g hg' => hkeep g (h.s4.olt (.inr ⟨i, hi, hg'⟩)) (h.sF g (.inr ⟨i, hi, hg'⟩)).2.2
  · obtain ⟨r1, r2, r3⟩ := h.rows i hi
    exact ⟨r1.kept (hkeep _ r1.lt (h.rF i hi _ (.inl rfl)).2.2.1), r2.kept (hkeep _ r2.lt (h.rF i hi _ (.inr (.inl rfl))).2.2.1), r3.kept (hkeep _ r3.lt (h.rF i hi _ (.inr (.inr rfl))).2.2.1)⟩
  · obtain ⟨r1, r2, r3⟩ := h.rows i hi
    have hlt : g < wr.heap.size := by
      rcases hg' with rfl | rfl | rfl
      · exact r1.lt
      · exact r2.lt
      · exact r3.lt
    obtain ⟨q1, q2, q3, q4⟩ := h.rF i hi g hg'
    exact ⟨q1, q2, fun _ => hkne g hlt q3, q4⟩
  · have hs := app_size hg
    exact ⟨hs.1, hs.2.1, hs.2.2.1, by omega, fun k hk hn => hblk k hk fun e h0 => hn ⟨e, h0⟩⟩
/-- A track is asked for something else. -/
theorem WS.put {w wr : World} {z : Nat} {al : Option Addr} {m cl gt sz : Nat} {l : List (Nat × Nat)} {L : List Pace.En} {v : Nat → Value} {ga gb gy : Nat → Nat} {F : Nat → Prop} (h : WS w wr z al m cl gt sz l L v ga gb gy F) {i : Nat} (hi : i < m) (a b : Nat) :
    WS w ((wr.setCell ⟨gt, i * 6 + 3, none⟩ (.int .i64 (a : Int))).setCell ⟨gt, i * 6 + 4, none⟩ (.int .i64 (b : Int))) z al m cl gt sz (l.set i (a, b)) L v ga gb gy F ∧ Fr wr ((wr.setCell ⟨gt, i * 6 + 3, none⟩ (.int .i64 (a : Int))).setCell ⟨gt, i * 6 + 4, none⟩ (.int .i64 (b : Int))) (fun k => k = gt) := by
  have h0 : 0 < m := by omega
  have hlen := h.len
  have hch : Ch wr ((wr.setCell ⟨gt, i * 6 + 3, none⟩ (.int .i64 (a : Int))).setCell ⟨gt, i * 6 + 4, none⟩ (.int .i64 (b : Int))) (fun x o => x = gt ∧ (o = i * 6 + 3 ∨ o = i * 6 + 4)) := ((Ch.refl wr _).setCell ⟨rfl, .inl rfl⟩ _).setCell ⟨rfl, .inr rfl⟩ _
  have hk : ∀ k, k ≠ gt → ((wr.setCell ⟨gt, i * 6 + 3, none⟩ (.int .i64 (a : Int))).setCell ⟨gt, i * 6 + 4, none⟩ (.int .i64 (b : Int))).heap[k]? = wr.heap[k]? := fun k hk => hch.blk k fun o q => hk q.1
  have htk := h.tk.put hi (a : Int) (b : Int)
  refine ⟨⟨(hk _ (by have := (h.gF h0).2; omega)).trans h.z4, h.zF, by rw [List.length_set]; exact hlen, h.al0, h.al1, ⟨htk.lt, htk.fz, htk.c1, htk.c2, fun j hj => ?_, fun j hj => ?_, htk.sh⟩, h.gF, h.s4.kept (hk z ((h.sF z (.inl rfl)).2.2 h0)) fun i hi g hg => hk g ((h.sF g (.inr ⟨i, hi, hg⟩)).2.2 h0), h.sF, fun j hj => ?_, h.rF⟩, ?_⟩
  · unfold nrOf
    rw [getD_set (by omega)]
    have := htk.c3 j hj
    by_cases e : j = i
    · rw [if_pos e]; simp only [if_pos e] at this; exact this
    · rw [if_neg e]; simp only [if_neg e] at this; exact this
  · unfold nbOf
    rw [getD_set (by omega)]
    have := htk.c4 j hj
    by_cases e : j = i
    · rw [if_pos e]; simp only [if_pos e] at this; exact this
    · rw [if_neg e]; simp only [if_neg e] at this; exact this
  · obtain ⟨r1, r2, r3⟩ := h.rows j hj
    exact ⟨r1.kept (hk _ ((h.rF j hj _ (.inl rfl)).2.2.1 h0)), r2.kept (hk _ ((h.rF j hj _ (.inr (.inl rfl))).2.2.1 h0)), r3.kept (hk _ ((h.rF j hj _ (.inr (.inr rfl))).2.2.1 h0))⟩
  · exact hch.fr2 fun x o q => q.1
end Go.Proofs.YtogdekjklbbbiaaDoor
