import Derived.Test.YtogdekjklbbbiaaDoorBf
import Derived.Test.YtogdekjklbbbiaaDoorOge
import Derived.Test.YtogdekjklbbbiaaDoorLb
import Derived.Test.YtogdekjklbbbiaaDoorPac
import Derived.Test.YtogdekjklbbbiaaDoorBe
set_option maxRecDepth 100000
namespace Go.Proofs.YtogdekjklbbbiaaDoor
open Go.ChangeShapes Go.WideShapes Go.ChangeAt Go.RowKit
set_option linter.unusedSimpArgs false
set_option linter.unusedVariables false

theorem rel_each {s : Pace.St} (h : Pace.PI s []) (n : Nat) : ∀ q ∈ (Pace.rel n s).1, (∃ x ∈ s.fl, x.num = q.1) ∧ 0 < q.2.2.length ∧ q.2.2.length ≤ 8 ∧ ∀ pk ∈ q.2.2, 1 ≤ pk.2 ∧ pk.2 ≤ 1500 := by
  induction n generalizing s with
  | zero => intro q hq; cases hq
  | succ n ih =>
    unfold Pace.rel
    split
    · intro q hq; cases hq
    · rename_i a e
      obtain ⟨q1, q2⟩ := Pace.due_some e
      obtain ⟨x, hx, hxn, hlx, hk, hk2, hgot, hsent, hfl, h'⟩ := h.send (Pace.best_some q1).1 q2
      intro q hq
      rcases List.mem_cons.1 hq with rfl | hq
      · rw [hsent]
        have h8 := (h.wf.F x hx).few
        have hadm := (h.wf.F x hx).adm
        refine ⟨⟨x, hx, hxn⟩, ?_, ?_, fun pk hpk => (h.wf.F x hx).lens pk (List.mem_of_mem_take hpk)⟩
        · show 0 < (x.pk.take a.k).length
          rw [List.length_take]; omega
        · show (x.pk.take a.k).length ≤ 8
          rw [List.length_take]; omega
      · obtain ⟨⟨y, hy, hyn⟩, r⟩ := ih h' q hq
        refine ⟨?_, r⟩
        have hm : y.num ∈ (Pace.send s a).2.fl.map (·.num) := List.mem_map.2 ⟨y, hy, rfl⟩
        rw [Pace.send_nums] at hm
        obtain ⟨z, hz, e⟩ := List.mem_map.1 hm
        exact ⟨z, hz, e.trans hyn⟩
theorem sumP_bytes (l : List (Int × Nat)) : ∀ j, j ≤ l.length → sumP (fun j => ((l.getD j (0, 0)).2 : Int)) j = (Pace.bytes (l.take j) : Int) := by
  intro j
  induction j with
  | zero => intro _; simp [sumP, Pace.bytes]
  | succ j ih =>
    intro hj
    have e : l.take (j + 1) = l.take j ++ [l.getD j (0, 0)] := by
      rw [List.take_add_one, List.getD, List.getElem?_eq_getElem (by omega)]; rfl
    rw [e, Pace.bytes_append]
    simp only [sumP]
    rw [ih (by omega)]
    simp [Pace.bytes]
theorem sumB_bytes (bs : List Bt) (f : Nat) : ∀ i, i ≤ bs.length → sumB (bvOf (bs.map up)) f i = (Pace.bytes (Pace.pksOf (f + 1) (bs.take i)) : Int) := by
  intro i
  induction i with
  | zero => intro _; simp [sumB, Pace.pksOf, Pace.bytes]
  | succ i ih =>
    intro hi
    obtain ⟨q, hq⟩ : ∃ q, bs[i]? = some q := ⟨_, List.getElem?_eq_getElem (by omega)⟩
    have e : bs.take (i + 1) = bs.take i ++ [q] := by rw [List.take_add_one, hq]; rfl
    have hg : (bs.map up).getD i btD = up q := by rw [List.getD, List.getElem?_map, hq]; rfl
    simp only [sumB]
    rw [ih (by omega), e]
    have hp : Pace.pksOf (f + 1) (bs.take i ++ [q]) = Pace.pksOf (f + 1) (bs.take i) ++ (if q.1 = f + 1 then q.2.2 else []) := by
      simp only [Pace.pksOf, List.filter_append, List.flatMap_append]
      congr 1
      by_cases e : q.1 = f + 1
      · simp [e]
      · simp [e]
    rw [hp, Pace.bytes_append]
    have hfl : (bvOf (bs.map up)).fl i = (q.1 : Int) := by show (((bs.map up).getD i btD).1 : Int) = _; rw [hg]; rfl
    have hle : (bvOf (bs.map up)).le i = fun j => ((q.2.2.getD j (0, 0)).2 : Int) := by
      funext j
      show ((((bs.map up).getD i btD).2.2.getD j (0, 0)).2 : Int) = _
      rw [hg]; rfl
    have hln : (bvOf (bs.map up)).ln i = q.2.2.length := by show ((bs.map up).getD i btD).2.2.length = _; rw [hg]; rfl
    rw [hfl, hle, hln]
    by_cases e : q.1 = f + 1
    · rw [if_pos (by omega), if_pos e, sumP_bytes _ _ (Nat.le_refl _), List.take_length]
      omega
    · rw [if_neg (by omega), if_neg e]
      simp [Pace.bytes]
theorem gone_length {l : List Pace.Fl} (h : (l.map (·.num)).Nodup) (f : Nat) : l.length ≤ (Pace.gone l f).length + 1 := by
  induction l with
  | nil => simp
  | cons x l ih =>
    simp only [List.map_cons, List.nodup_cons] at h
    have h1 := ih h.2
    by_cases e : x.num = f
    · have e2 : Pace.gone (x :: l) f = Pace.gone l f := by simp [Pace.gone, e]
      have e3 : Pace.gone l f = l := by
        unfold Pace.gone
        rw [List.filter_eq_self]
        intro y hy
        have : y.num ≠ f := fun q => h.1 (List.mem_map.2 ⟨y, hy, q.trans e.symm⟩)
        simpa using this
      rw [e2, e3, List.length_cons]
      exact Nat.le_refl _
    · have e2 : Pace.gone (x :: l) f = x :: Pace.gone l f := by simp [Pace.gone, e]
      rw [e2, List.length_cons, List.length_cons]
      omega

/-! ### What the watcher holds -/
def xOf (L : List Pace.En) (ga gb gy : Nat → Nat) (i : Nat) : List Value := (List.range L.length).map fun j => if i = 0 then .int .i64 ((Pace.at' L j).ck : Int) else if i = 1 then .slice (some ⟨ga j, 0, none⟩) (Pace.at' L j).n (Pace.at' L j).n else if i = 2 then .slice (some ⟨gb j, 0, none⟩) (Pace.at' L j).n (Pace.at' L j).n else .slice (some ⟨gy j, 0, none⟩) (Pace.at' L j).n (Pace.at' L j).n
theorem xOf_length (L : List Pace.En) (ga gb gy : Nat → Nat) (i : Nat) : (xOf L ga gb gy i).length = L.length := by simp [xOf]
theorem xOf_get {L : List Pace.En} {ga gb gy : Nat → Nat} {i j : Nat} (h : j < L.length) : (xOf L ga gb gy i)[j]? = some (if i = 0 then .int .i64 ((Pace.at' L j).ck : Int) else if i = 1 then .slice (some ⟨ga j, 0, none⟩) (Pace.at' L j).n (Pace.at' L j).n else if i = 2 then .slice (some ⟨gb j, 0, none⟩) (Pace.at' L j).n (Pace.at' L j).n else .slice (some ⟨gy j, 0, none⟩) (Pace.at' L j).n (Pace.at' L j).n) := by
  simp [xOf, h]
theorem xOf_snoc (L : List Pace.En) (e : Pace.En) (ga gb gy : Nat → Nat) (a b y i : Nat) : xOf (L ++ [e]) (upd ga L.length a) (upd gb L.length b) (upd gy L.length y) i = xOf L ga gb gy i ++ [if i = 0 then .int .i64 (e.ck : Int) else if i = 1 then .slice (some ⟨a, 0, none⟩) e.n e.n else if i = 2 then .slice (some ⟨b, 0, none⟩) e.n e.n else .slice (some ⟨y, 0, none⟩) e.n e.n] := by
  unfold xOf
  rw [List.length_append, List.length_singleton, List.range_succ, List.map_append]
  congr 1
  · apply List.map_congr_left
    intro j hj
    have hj' := List.mem_range.1 hj
    rw [Pace.at_old hj']
    simp only [upd, if_neg (show j ≠ L.length by omega)]
  · simp only [List.map_cons, List.map_nil, Pace.at_new, upd_same]
/-- The tracks. -/
def nrOf (l : List (Nat × Nat)) (i : Nat) : Int := ((l.getD i (0, 0)).1 : Int)
def nbOf (l : List (Nat × Nat)) (i : Nat) : Int := ((l.getD i (0, 0)).2 : Int)
structure WS (w wr : World) (z : Nat) (al : Option Addr) (m cl gt sz : Nat) (l : List (Nat × Nat)) (L : List Pace.En) (v : Nat → Value) (ga gb gy : Nat → Nat) (F : Nat → Prop) : Prop where
  z4 : wr.heap[w.heap.size]? = some (.cells #[.slice none 0 0, .slice none 0 0, .slice none 0 0, .slice none 0 0] 45)
  zF : ¬ F w.heap.size
  len : m = l.length
  al0 : m = 0 → al = none ∧ cl = 0
  al1 : 0 < m → al = some ⟨gt, 0, none⟩ ∧ m ≤ cl ∧ cl ≤ maxLen ∧ sz = cl * 6
  tk : TK wr gt m sz (nrOf l) (nbOf l)
  gF : 0 < m → ¬ F gt ∧ w.heap.size < gt
  s4 : S4 wr z v (xOf L ga gb gy) (fun _ => L.length)
  sF : ∀ k, S4.own z v k → ¬ F k ∧ w.heap.size < k ∧ (0 < m → k ≠ gt)
  rows : ∀ i, i < L.length → RW wr (ga i) (Pace.at' L i).n (fun f => ((Pace.at' L i).rt f : Int)) ∧ RW wr (gb i) (Pace.at' L i).n (fun f => ((Pace.at' L i).bu f : Int)) ∧ RW wr (gy i) (Pace.at' L i).n (fun f => ((Pace.at' L i).bt f : Int))
  rF : ∀ i, i < L.length → ∀ g, (g = ga i ∨ g = gb i ∨ g = gy i) → ¬ F g ∧ w.heap.size < g ∧ (0 < m → g ≠ gt) ∧ ¬ S4.own z v g
theorem S4.olt {w : World} {S : Nat} {v : Nat → Value} {x : Nat → List Value} {T : Nat → Nat} (h : S4 w S v x T) {k : Nat} (hk : S4.own S v k) : k < w.heap.size := by
  rcases hk with rfl | ⟨i, hi, q⟩
  · exact h.lt
  · exact ((h.r i hi).lt k q).2
theorem WS.kept {w wr w' : World} {z : Nat} {al : Option Addr} {m cl gt sz : Nat} {l : List (Nat × Nat)} {L : List Pace.En} {v : Nat → Value} {ga gb gy : Nat → Nat} {F F' : Nat → Prop} (h : WS w wr z al m cl gt sz l L v ga gb gy F) (hf : Fr wr w' F) (hF : ∀ k, k < wr.heap.size → F' k → F k) : WS w w' z al m cl gt sz l L v ga gb gy F' := by
  have hz : w.heap.size < wr.heap.size := (Array.getElem?_eq_some_iff.1 h.z4).1
  have hs : ∀ k, S4.own z v k → w'.heap[k]? = wr.heap[k]? := fun k hk => hf.blk k (h.s4.olt hk) (h.sF k hk).1
  refine ⟨(hf.blk _ hz h.zF).trans h.z4, fun q => h.zF (hF _ hz q), h.len, h.al0, h.al1, h.tk.kept fun h0 => hf.blk gt (h.tk.lt h0) (h.gF h0).1, fun h0 => ⟨fun q => (h.gF h0).1 (hF _ (h.tk.lt h0) q), (h.gF h0).2⟩, h.s4.kept (hs z (.inl rfl)) fun i hi g hg => hs g (.inr ⟨i, hi, hg⟩), fun k hk => ⟨fun q => (h.sF k hk).1 (hF k (h.s4.olt hk) q), (h.sF k hk).2⟩, fun i hi => ?_, fun i hi g hg => ?_⟩
  · obtain ⟨r1, r2, r3⟩ := h.rows i hi
    exact ⟨r1.kept (hf.blk _ r1.lt (h.rF i hi _ (.inl rfl)).1), r2.kept (hf.blk _ r2.lt (h.rF i hi _ (.inr (.inl rfl))).1), r3.kept (hf.blk _ r3.lt (h.rF i hi _ (.inr (.inr rfl))).1)⟩
  · obtain ⟨r1, r2, r3⟩ := h.rows i hi
    have hlt : g < wr.heap.size := by
      rcases hg with rfl | rfl | rfl
      · exact r1.lt
      · exact r2.lt
      · exact r3.lt
    exact ⟨fun q => (h.rF i hi g hg).1 (hF g hlt q), (h.rF i hi g hg).2⟩
end Go.Proofs.YtogdekjklbbbiaaDoor

namespace Go.Proofs.YtogdekjklbbbiaaDoor
open Go.ChangeShapes Go.WideShapes Go.ChangeAt Go.RowKit
set_option linter.unusedSimpArgs false
set_option linter.unusedVariables false

/-- The tracks' row. -/
theorem WS.row {w wr : World} {z : Nat} {al : Option Addr} {m cl gt sz : Nat} {l : List (Nat × Nat)} {L : List Pace.En} {v : Nat → Value} {ga gb gy : Nat → Nat} {F : Nat → Prop} (h : WS w wr z al m cl gt sz l L v ga gb gy F) : ∃ xs, wr.ownsRow 0 105 6 (.slice al m cl) m xs ∧ ∀ j, j < m * 6 → xs[j]? = wr.cell? ⟨gt, j, none⟩ := by
  rcases Nat.eq_zero_or_pos m with h0 | h0
  · obtain ⟨rfl, rfl⟩ := h.al0 h0
    subst h0
    exact ⟨[], World.ownsRow_nil _ _ _ _, fun j hj => by omega⟩
  · obtain ⟨rfl, h1, h2, h3⟩ := h.al1 h0
    obtain ⟨cur, k1, k2⟩ := h.tk.sh h0
    have hle : m * 6 ≤ cur.size := by rw [k2, h3]; exact Nat.mul_le_mul_right 6 h1
    refine ⟨cur.toList.take (m * 6), ⟨by rw [List.length_take, Array.length_toList]; omega, .inr ⟨gt, cl, cur, rfl, Nat.zero_le _, k1, h1, h2, by rw [k2, h3], rfl⟩⟩, fun j hj => ?_⟩
    rw [heap_cell k1, List.getElem?_take, if_pos hj]
    simp
theorem getD_snoc {l : List (Nat × Nat)} {a : Nat × Nat} {i : Nat} : (l ++ [a]).getD i (0, 0) = if i = l.length then a else l.getD i (0, 0) := by
  by_cases e : i = l.length
  · subst e; simp [List.getD]
  · rw [if_neg e]
    simp only [List.getD]
    by_cases e2 : i < l.length
    · rw [List.getElem?_append_left e2]
    · rw [List.getElem?_append_right (by omega), List.getElem?_eq_none (by simp; omega), List.getElem?_eq_none (by omega)]
theorem getD_set {l : List (Nat × Nat)} {a : Nat × Nat} {i j : Nat} (hi : i < l.length) : (l.set i a).getD j (0, 0) = if j = i then a else l.getD j (0, 0) := by
  simp only [List.getD, List.getElem?_set]
  by_cases e : i = j
  · subst e; simp [hi]
  · rw [if_neg e, if_neg (fun q => e q.symm)]
/-- A track is put behind. -/
theorem WS.app {w wr w'' : World} {z : Nat} {al al' : Option Addr} {m cl cl' gt sz : Nat} {l : List (Nat × Nat)} {L : List Pace.En} {v : Nat → Value} {ga gb gy : Nat → Nat} {F : Nat → Prop} (h : WS w wr z al m cl gt sz l L v ga gb gy F) (hFl : ∀ k, F k → k < wr.heap.size) {xs : List Value} (hxs : ∀ j, j < m * 6 → xs[j]? = wr.cell? ⟨gt, j, none⟩) (hxl : xs.length = m * 6) (ob : Obj) (a r b : Nat) {u0 : Value}
    (hown : w''.ownsRow 0 105 6 (.slice al' (m + 1) cl') (m + 1) (xs ++ [u0, .int .i64 0, .int .i64 (b : Int), .int .i64 (r : Int), .int .i64 (b : Int), .bool true]))
    (hg : ((Value.slice al' (m + 1) cl').ownBlock = (Value.slice al m cl).ownBlock ∧ (wr.alloc ob).grownBy w'' (Value.slice al m cl).ownBlock) ∨ ((Value.slice al' (m + 1) cl').ownBlock = some (wr.alloc ob).heap.size ∧ (wr.alloc ob).grownBy w'' none)) :
    ∃ gt' sz', WS w w'' z al' (m + 1) cl' gt' sz' (l ++ [(r, b)]) L v ga gb gy F ∧ Fr wr w'' (fun k => k = gt ∧ 0 < m) := by
  have hz : w.heap.size < wr.heap.size := (Array.getElem?_eq_some_iff.1 h.z4).1
  have hsz : wr.heap.size < (wr.alloc ob).heap.size := by simp
  have hob : (Value.slice al m cl).ownBlock = if 0 < m then some gt else none := by
    rcases Nat.eq_zero_or_pos m with h0 | h0
    · obtain ⟨rfl, rfl⟩ := h.al0 h0; rw [if_neg (by omega)]; rfl
    · obtain ⟨rfl, _⟩ := h.al1 h0; rw [if_pos h0]; rfl
  have hblk : ∀ k, k < wr.heap.size → (k = gt → ¬ 0 < m) → w''.heap[k]? = wr.heap[k]? := fun k hk hn => by
    have hn' : (Value.slice al m cl).ownBlock ≠ some k := fun e => by
      rw [hob] at e
      by_cases h0 : 0 < m
      · rw [if_pos h0] at e; injection e with e; exact hn e.symm h0
      · rw [if_neg h0] at e; cases e
    rw [app_blk hg (by omega) (fun e => absurd e hn'), Below.heap_alloc _ _ _ hk]
  obtain ⟨gt', cap, hv, _, hlt', hob', hmc, hcm⟩ := row_shape hown (by omega)
  injection hv with hv1 hv2 hv3
  subst hv1 hv3
  have hgt' : (gt' = gt ∧ 0 < m) ∨ wr.heap.size < gt' := by
    rcases hg with ⟨q, _⟩ | ⟨q, _⟩
    · rw [hob', hob] at q
      by_cases h0 : 0 < m
      · rw [if_pos h0] at q; injection q with q; exact .inl ⟨q, h0⟩
      · rw [if_neg h0] at q; cases q
    · rw [hob'] at q; injection q with q; exact .inr (by omega)
  have hcell : ∀ j u, (xs ++ [u0, Value.int .i64 0, .int .i64 (b : Int), .int .i64 (r : Int), .int .i64 (b : Int), .bool true])[j]? = some u → w''.cell? ⟨gt', j, none⟩ = some u := fun j u hu => row_get0 hown hob' hu
  have hsh : ∃ cur, w''.heap[gt']? = some (.cells cur 105) ∧ cur.size = cl' * 6 := by
    rcases hown.2 with ⟨_, q⟩ | ⟨g, cp, cur, q, _, k1, _, _, k2, _⟩
    · omega
    · injection q with q1 q2 q3
      injection q1 with q1
      injection q1 with q1
      subst q1 q3
      exact ⟨cur, k1, k2⟩
  have hold : ∀ i, i < m → ∀ c, c < 6 → (xs ++ [u0, Value.int .i64 0, .int .i64 (b : Int), .int .i64 (r : Int), .int .i64 (b : Int), .bool true])[i * 6 + c]? = wr.cell? ⟨gt, i * 6 + c, none⟩ := fun i hi c hc => by
    rw [List.getElem?_append_left (by omega)]; exact hxs _ (by omega)
  have hnew : ∀ c, c < 6 → (xs ++ [u0, Value.int .i64 0, .int .i64 (b : Int), .int .i64 (r : Int), .int .i64 (b : Int), .bool true])[m * 6 + c]? = [u0, Value.int .i64 0, .int .i64 (b : Int), .int .i64 (r : Int), .int .i64 (b : Int), .bool true][c]? := fun c hc => by
    rw [List.getElem?_append_right (by omega), hxl]
    congr 1
    omega
  have hlen := h.len
  have hgw : w.heap.size < gt' := by
    rcases hgt' with ⟨rfl, h0⟩ | q
    · exact (h.gF h0).2
    · omega
  have hgF : ¬ F gt' := fun q => by
    rcases hgt' with ⟨rfl, h0⟩ | q2
    · exact (h.gF h0).1 q
    · have := hFl _ q; omega
  have hkeep : ∀ k, k < wr.heap.size → (0 < m → k ≠ gt) → w''.heap[k]? = wr.heap[k]? := fun k hk hn => hblk k hk fun e h0 => hn h0 e
  have hkne : ∀ k, k < wr.heap.size → (0 < m → k ≠ gt) → k ≠ gt' := fun k hk hn e => by
    rcases hgt' with ⟨q, h0⟩ | q
    · exact hn h0 (e.trans q)
    · omega
  refine ⟨gt', cl' * 6, ⟨(hkeep _ hz fun h0 e => by have := (h.gF h0).2; omega).trans h.z4, h.zF, by rw [List.length_append]; simp; exact hlen, fun h0 => by omega, fun _ => ⟨rfl, hmc, hcm, rfl⟩, ⟨fun _ => hlt', fun o _ => ?_, fun i hi => ?_, fun i hi => ?_, fun i hi => ?_, fun i hi => ?_, fun _ => hsh⟩, fun _ => ⟨hgF, hgw⟩, ?_, fun k hk => ⟨(h.sF k hk).1, (h.sF k hk).2.1, fun _ => hkne k (h.s4.olt hk) (h.sF k hk).2.2⟩, fun i hi => ?_, fun i hi g hg' => ?_⟩, ?_⟩
  · obtain ⟨cur, k1, _⟩ := hsh
    simp [World.frozen?, k1]
  · by_cases e : i = m
    · subst e; exact ⟨_, hcell _ _ ((hnew 1 (by omega)).trans rfl)⟩
    · obtain ⟨u, hu⟩ := h.tk.c1 i (by omega)
      exact ⟨u, hcell _ _ ((hold i (by omega) 1 (by omega)).trans hu)⟩
  · by_cases e : i = m
    · subst e; exact ⟨_, hcell _ _ ((hnew 2 (by omega)).trans rfl)⟩
    · obtain ⟨u, hu⟩ := h.tk.c2 i (by omega)
      exact ⟨u, hcell _ _ ((hold i (by omega) 2 (by omega)).trans hu)⟩
  · unfold nrOf
    rw [getD_snoc]
    by_cases e : i = m
    · subst e; rw [if_pos hlen]; exact hcell _ _ ((hnew 3 (by omega)).trans rfl)
    · rw [if_neg (by omega)]
      exact hcell _ _ ((hold i (by omega) 3 (by omega)).trans (h.tk.c3 i (by omega)))
  · unfold nbOf
    rw [getD_snoc]
    by_cases e : i = m
    · subst e; rw [if_pos hlen]; exact hcell _ _ ((hnew 4 (by omega)).trans rfl)
    · rw [if_neg (by omega)]
      exact hcell _ _ ((hold i (by omega) 4 (by omega)).trans (h.tk.c4 i (by omega)))
  · exact h.s4.kept (hkeep z h.s4.lt (h.sF z (.inl rfl)).2.2) fun i hi g hg' => hkeep g (h.s4.olt (.inr ⟨i, hi, hg'⟩)) (h.sF g (.inr ⟨i, hi, hg'⟩)).2.2
  · obtain ⟨r1, r2, r3⟩ := h.rows i hi
    exact ⟨r1.kept (hkeep _ r1.lt (h.rF i hi _ (.inl rfl)).2.2.1), r2.kept (hkeep _ r2.lt (h.rF i hi _ (.inr (.inl rfl))).2.2.1), r3.kept (hkeep _ r3.lt (h.rF i hi _ (.inr (.inr rfl))).2.2.1)⟩
  · obtain ⟨r1, r2, r3⟩ := h.rows i hi
    have hlt : g < wr.heap.size := by
      rcases hg' with rfl | rfl | rfl
      · exact r1.lt
      · exact r2.lt
      · exact r3.lt
    obtain ⟨q1, q2, q3, q4⟩ := h.rF i hi g hg'
    exact ⟨q1, q2, fun _ => hkne g hlt q3, q4⟩
  · have hs := app_size hg
    exact ⟨hs.1, hs.2.1, hs.2.2.1, by omega, fun k hk hn => hblk k hk fun e h0 => hn ⟨e, h0⟩⟩
/-- A track is asked for something else. -/
theorem WS.put {w wr : World} {z : Nat} {al : Option Addr} {m cl gt sz : Nat} {l : List (Nat × Nat)} {L : List Pace.En} {v : Nat → Value} {ga gb gy : Nat → Nat} {F : Nat → Prop} (h : WS w wr z al m cl gt sz l L v ga gb gy F) {i : Nat} (hi : i < m) (a b : Nat) :
    WS w ((wr.setCell ⟨gt, i * 6 + 3, none⟩ (.int .i64 (a : Int))).setCell ⟨gt, i * 6 + 4, none⟩ (.int .i64 (b : Int))) z al m cl gt sz (l.set i (a, b)) L v ga gb gy F ∧ Fr wr ((wr.setCell ⟨gt, i * 6 + 3, none⟩ (.int .i64 (a : Int))).setCell ⟨gt, i * 6 + 4, none⟩ (.int .i64 (b : Int))) (fun k => k = gt) := by
  have h0 : 0 < m := by omega
  have hlen := h.len
  have hch : Ch wr ((wr.setCell ⟨gt, i * 6 + 3, none⟩ (.int .i64 (a : Int))).setCell ⟨gt, i * 6 + 4, none⟩ (.int .i64 (b : Int))) (fun x o => x = gt ∧ (o = i * 6 + 3 ∨ o = i * 6 + 4)) := ((Ch.refl wr _).setCell ⟨rfl, .inl rfl⟩ _).setCell ⟨rfl, .inr rfl⟩ _
  have hk : ∀ k, k ≠ gt → ((wr.setCell ⟨gt, i * 6 + 3, none⟩ (.int .i64 (a : Int))).setCell ⟨gt, i * 6 + 4, none⟩ (.int .i64 (b : Int))).heap[k]? = wr.heap[k]? := fun k hk => hch.blk k fun o q => hk q.1
  have htk := h.tk.put hi (a : Int) (b : Int)
  refine ⟨⟨(hk _ (by have := (h.gF h0).2; omega)).trans h.z4, h.zF, by rw [List.length_set]; exact hlen, h.al0, h.al1, ⟨htk.lt, htk.fz, htk.c1, htk.c2, fun j hj => ?_, fun j hj => ?_, htk.sh⟩, h.gF, h.s4.kept (hk z ((h.sF z (.inl rfl)).2.2 h0)) fun i hi g hg => hk g ((h.sF g (.inr ⟨i, hi, hg⟩)).2.2 h0), h.sF, fun j hj => ?_, h.rF⟩, ?_⟩
  · unfold nrOf
    rw [getD_set (by omega)]
    have := htk.c3 j hj
    by_cases e : j = i
    · rw [if_pos e]; simp only [if_pos e] at this; exact this
    · rw [if_neg e]; simp only [if_neg e] at this; exact this
  · unfold nbOf
    rw [getD_set (by omega)]
    have := htk.c4 j hj
    by_cases e : j = i
    · rw [if_pos e]; simp only [if_pos e] at this; exact this
    · rw [if_neg e]; simp only [if_neg e] at this; exact this
  · obtain ⟨r1, r2, r3⟩ := h.rows j hj
    exact ⟨r1.kept (hk _ ((h.rF j hj _ (.inl rfl)).2.2.1 h0)), r2.kept (hk _ ((h.rF j hj _ (.inr (.inl rfl))).2.2.1 h0)), r3.kept (hk _ ((h.rF j hj _ (.inr (.inr rfl))).2.2.1 h0))⟩
  · exact hch.fr2 fun x o q => q.1
end Go.Proofs.YtogdekjklbbbiaaDoor

namespace Go.Proofs.YtogdekjklbbbiaaDoor
open Go.ChangeShapes Go.WideShapes Go.ChangeAt Go.RowKit
set_option linter.unusedSimpArgs false
set_option linter.unusedVariables false

/-- The first batch of an answer. -/
theorem ba_first {w : World} {n0 : Nat} {N : Nat → Prop} {q : Bt} {bs : List Bt} {v : Value} (h : BA w n0 N (q :: bs) v) : ∃ g c g2 o2, v = .slice (some ⟨g, 0, none⟩) (bs.length + 1) c ∧ w.cell? ⟨g, 0, none⟩ = some (.int .i64 (q.1 : Int)) ∧ w.cell? ⟨g, 1, none⟩ = some (.int .i64 (q.2.1 : Int)) ∧ w.cell? ⟨g, 2, none⟩ = some (.slice (some ⟨g2, o2, none⟩) q.2.2.length q.2.2.length) ∧ pkAt w g2 o2 q.2.2 := by
  obtain ⟨⟨cs, hr, ha⟩, _⟩ := h
  cases ha with
  | cons h1 h2 =>
    obtain ⟨g2, o2, rfl, _, _, _, hp, _⟩ := h1
    obtain ⟨g, c, hv, _, _, hvg, _⟩ := row_shape hr (by simp)
    refine ⟨g, c, g2, o2, by rw [hv]; simp, row_get0 hr hvg rfl, row_get0 hr hvg rfl, row_get0 hr hvg rfl, hp⟩
theorem ba_len {w : World} {n0 : Nat} {N : Nat → Prop} {bs : List Bt} {v : Value} (h : BA w n0 N bs v) : ∃ a c, v = .slice a bs.length c := by
  obtain ⟨⟨cs, hr, ha⟩, _⟩ := h
  exact row_len hr
/-- The program is alive. -/
theorem alive_any (w : World) (hz : 0 < w.heap.size) (hT : TabW w) : Calls Tryd.prog 17 #[] w fun e w' => e = .returned (.bool true) ∧ Fr w w' (fun _ => False) := by
  refine alive_walk w (fun b w1 => PX w (Pace.PS.new 1500) ⟨0, 0, 0, 0, 0, 0⟩ b w1) (fun b w1 => PX w ((Pace.PS.new 1500).add 1000 1500) ⟨0, 0, 0, 0, 0, 0⟩ b w1) (fun b w1 => PX w (((Pace.PS.new 1500).add 1000 1500).enq 1 7 100) ⟨1, 0, 0, 0, 0, 0⟩ b w1) (fun w1 => Fr w w1 (fun _ => False)) ?_ ?_ ?_ ?_
  · exact PX.new (Fr.refl w _) hz 1500 (by omega) (by omega)
  · rintro b w1 ⟨y, hP, hf, hy⟩
    refine (pa_addR hP (by show 0 < 8000000000000000000; omega) 1000 1500).mono ?_
    rintro e w' ⟨rfl, y', hP', hs⟩
    have hR : addR (Pace.PS.new 1500) 1000 1500 = 0 := by simp [addR, Pace.allowed, Pace.PS.new]
    have hN : addN (Pace.PS.new 1500) 1000 1500 = 1 := by unfold addN; rw [if_pos hR]; rfl
    have hPp : addP (Pace.PS.new 1500) 1000 1500 = (Pace.PS.new 1500).add 1000 1500 := by unfold addP; rw [if_pos hR]; rfl
    rw [hR, hN]
    rw [hPp] at hP'
    exact ⟨rfl, PX.step hf hy hP' hs⟩
  · rintro b w1 ⟨y, hP, hf, hy⟩
    refine (pa_enq hP (by show 0 < 8000000000000000000; omega) (by show 0 < 8000000000000000000; omega) 1 7 100).mono ?_
    rintro e w' ⟨rfl, y', hP', hs⟩
    have hR : enqR ((Pace.PS.new 1500).add 1000 1500) 1 100 = 0 := by simp [enqR, lookI, Pace.PS.new, Pace.PS.add]
    have hPp : enqP ((Pace.PS.new 1500).add 1000 1500) 1 7 100 = ((Pace.PS.new 1500).add 1000 1500).enq 1 7 100 := by unfold enqP; rw [if_pos hR]; rfl
    have hCp : enqC ((Pace.PS.new 1500).add 1000 1500) 1 100 ⟨0, 0, 0, 0, 0, 0⟩ = ⟨1, 0, 0, 0, 0, 0⟩ := by unfold enqC; rw [if_pos hR]
    rw [hR]
    rw [hPp, hCp] at hP'
    exact ⟨rfl, PX.step hf hy hP' hs⟩
  · rintro b w1 ⟨y, hP, hf, hy⟩
    refine (pa_poll hP (hT.fr hf (fun q => q) hz) (by show 1 < 9000000000000000000; omega) (by show 0 < 8000000000000000000; omega) 5 9 (by omega)).mono ?_
    rintro e w' ⟨v, rfl, n0, y', hP', hB, hs, hn0⟩
    have hb : ((((Pace.PS.new 1500).add 1000 1500).enq 1 7 100).poll (5 : Int).toNat (9 : Int).toNat).1 = [(1, 5, [(7, 100)])] := alive_poll
    rw [hb] at hB
    obtain ⟨g, c, g2, o2, rfl, c0, c1, c2, hp⟩ := ba_first hB
    obtain ⟨y2, _, hfr, _⟩ := PX.step hf hy hP' hs
    exact ⟨g, c, g2, o2, rfl, c0, c1, c2, hp 0 _ rfl, hfr⟩
theorem least_next {p : Pace.PS} {v : Int} (ha : p.asks = []) (h : nextOf p v) : LeastOf (p.st.A.map fun a => (a.num, a.at')) v := by
  unfold nextOf at h
  rw [if_pos ha] at h; exact h
theorem least_due {p : Pace.PS} {v : Int} (h : LeastOf (p.st.A.map fun a => (a.num, a.at')) v) (hd : Pace.due p.st = none) : v = -1 ∨ ((p.st.clock : Int) < v ∧ ∃ a ∈ p.st.A, v = (a.at' : Int) ∧ ∀ z ∈ p.st.A, a.at' ≤ z.at') := by
  rcases h with ⟨_, rfl⟩ | ⟨x, hx, rfl, hle⟩
  · exact .inl rfl
  · obtain ⟨a, ha, rfl⟩ := List.mem_map.1 hx
    have := Pace.due_none hd a ha
    refine .inr ⟨?_, a, ha, rfl, fun z hz => hle (z.num, z.at') (List.mem_map.2 ⟨z, hz, rfl⟩)⟩
    show (p.st.clock : Int) < (a.at' : Int)
    omega
set_option maxHeartbeats 1000000 in
/-- All but the row. -/
theorem prompt_any (q : Int) (sa : Option Addr) (n cp : Nat) (w : World) (hz : 0 < w.heap.size) (hT : TabW w) (hb : n < 8796093022208) (hsa : 0 < n → ∃ g o, sa = some ⟨g, o, none⟩) (op : Nat → OpV)
    (hC : ∀ k, k < n → ∀ g o, sa = some ⟨g, o, none⟩ → w.cell? ⟨g, o + k * 6, none⟩ = some (.int .i64 (op k).k) ∧ w.cell? ⟨g, o + k * 6 + 1, none⟩ = some (.int .i64 (op k).a) ∧ w.cell? ⟨g, o + k * 6 + 2, none⟩ = some (.int .i64 (op k).b) ∧ w.cell? ⟨g, o + k * 6 + 3, none⟩ = some (.int .i64 (op k).c) ∧ w.cell? ⟨g, o + k * 6 + 4, none⟩ = some (.int .i64 (op k).w) ∧ w.cell? ⟨g, o + k * 6 + 5, none⟩ = some (.slice (op k).sa (op k).sn (op k).sc)) :
    Calls Tryd.prog 6 #[.int .i64 q, .slice sa n cp] w fun e w' => e = .returned (.bool true) ∧ Fr w w' (fun _ => False) := by
  have hTr : ∀ {wr : World}, Fr w wr (fun _ => False) → TabW wr := fun hf => hT.fr hf (fun q => q) hz
  have hkeep : ∀ {wr w' : World} {y y' : Lay} {b : Nat} {p : Pace.PS} {c : Cn} (o : Obj), PA (wr.alloc o) b y p c → (∀ k, y.own k → k < wr.heap.size) → Stp (wr.alloc o) w' y y' → w'.heap[wr.heap.size]? = some o := fun {wr w' y y' b p c} o _ hlt hs => by
    rw [hs.fr.blk wr.heap.size (by simp) fun q => by have := hlt _ q; omega]
    exact heap_alloc_new _ _
  refine prompt_walk q sa n cp w hb hsa op (fun w1 => Fr w w1 (fun _ => False))
    (fun b k ck wr => k ≤ n ∧ ∃ p c, PX w p c b wr ∧ p.st.clock = ck ∧ Bd p c k)
    (fun b k ck m wr => k < n ∧ ∃ p c, PX w p c b wr ∧ p.st.clock = ck ∧ Bd p c (k + 1) ∧ p.asks = [] ∧ ((m : Int) < (op k).b → Pace.due p.st = none))
    (fun b ck wr => ∃ p c, PX w p c b wr ∧ p.st.clock = ck ∧ Bd p c (n + 1) ∧ p.asks = [] ∧ Pace.due p.st = none)
    (fun _ _ _ => True)
    (fun b v wr => ∃ p c, PX w p c b wr ∧ Bd p c (n + 1) ∧ p.asks = [] ∧ (p.st.clock : Int) < v ∧ v ≤ 4000000000000000000 ∧ ∃ a ∈ p.st.A, v = (a.at' : Int) ∧ ∀ z ∈ p.st.A, a.at' ≤ z.at')
    (fun b v wr => ∃ p c, PX w p c b wr ∧ Bd p c (n + 2) ∧ p.asks = [] ∧ (p.st.clock : Int) < v ∧ v ≤ 4000000000000000000 ∧ ∃ a ∈ p.st.A, v = (a.at' : Int) ∧ ∀ z ∈ p.st.A, a.at' ≤ z.at')
    (fun w' => Fr w w' (fun _ => False)) (alive_any w hz hT) ?_ ?_ ?_ ?_ ?_ ?_ ?_ ?_ ?_ ?_ ?_ ?_ ?_
  · intro w1 hf
    by_cases hq : q < 1500 ∨ 1000000 < q
    · refine (new_bad q w1 hq).mono ?_
      rintro e w' ⟨rfl, rfl⟩
      exact .inl ⟨rfl, hq, hf⟩
    · refine (PX.new hf hz q (by omega) (by omega)).mono ?_
      rintro e w' ⟨b, rfl, hP⟩
      exact .inr ⟨b, rfl, Nat.zero_le _, _, _, hP, rfl, ⟨Nat.le_refl _, Nat.le_refl _, Nat.le_refl _, Nat.le_refl _, Nat.le_refl _⟩⟩
  · rintro b k ck wr ⟨_, p, c, ⟨y, ⟨P, hM, hI, _⟩, hf, hy⟩, rfl, _⟩ hk
    refine ⟨by have := hI.pi.wf.clock; omega, fun g o e => ?_⟩
    have hcell := hC k hk g o e
    have hg : g < w.heap.size := World.block_lt_of_cell? _ _ hcell.1
    have hs : ∀ j, wr.cell? ⟨g, j, none⟩ = w.cell? ⟨g, j, none⟩ := fun j => World.cell?_of_block (w := w) (a := ⟨g, j, none⟩) (hf.blk g hg fun q => q)
    rw [hs, hs, hs, hs, hs, hs]
    exact hcell
  · rintro b k ck wr ⟨_, p, c, hPX, rfl, hB⟩ hk _
    have hlt : ∃ y, PA wr b y p c ∧ Fr w wr (fun _ => False) ∧ (∀ k, y.own k → w.heap.size ≤ k) ∧ ∀ k, y.own k → k < wr.heap.size := by
      obtain ⟨y, h1, h2, h3⟩ := hPX
      have h1' := h1
      obtain ⟨P, hM, _⟩ := h1
      exact ⟨y, h1', h2, h3, hM.lt⟩
    obtain ⟨y, h1, h2, h3, hlt⟩ := hlt
    have hPa := h1.kept (O := fun _ => False) ((Fr.refl wr _).alloc (op k).obj) (fun _ _ q => q)
    refine (pa_addR hPa (by have := hB.nw; omega) (op k).a (op k).b).mono ?_
    rintro e w' ⟨rfl, y', hP', hs⟩
    refine ⟨_, _, rfl, ⟨by omega, _, _, PX.step (h2.alloc _) h3 hP' hs, ?_, ?_⟩, hkeep _ hPa hlt hs⟩
    · unfold addP; split <;> rfl
    · have := hB.nw; have := hB.tk; have := hB.rf; have := hB.sn; have := hB.dr
      refine ⟨?_, by omega, by omega, by omega, by omega⟩
      unfold addP
      split
      · show p.newest + 1 ≤ k + 1; omega
      · omega
  · rintro b k ck wr ⟨_, p, c, hPX, rfl, hB⟩ hk _
    obtain ⟨y, h1, h2, h3⟩ := hPX
    have hlt : ∀ k, y.own k → k < wr.heap.size := by obtain ⟨P, hM, _⟩ := h1; exact hM.lt
    have hPa := h1.kept (O := fun _ => False) ((Fr.refl wr _).alloc (op k).obj) (fun _ _ q => q)
    refine (pa_set hPa (op k).a (op k).b (op k).c).mono ?_
    rintro e w' ⟨rfl, y', hP', hs⟩
    refine ⟨_, rfl, ⟨by omega, _, _, PX.step (h2.alloc _) h3 hP' hs, ?_, ?_⟩, hkeep _ hPa hlt hs⟩
    · unfold setP; split <;> rfl
    · have := hB.nw; have := hB.tk; have := hB.rf; have := hB.sn; have := hB.dr
      refine ⟨?_, by omega, by omega, by omega, by omega⟩
      unfold setP
      split
      · show p.newest ≤ k + 1; omega
      · omega
  · rintro b k ck wr ⟨_, p, c, hPX, rfl, hB⟩ hk _
    obtain ⟨y, h1, h2, h3⟩ := hPX
    have hlt : ∀ k, y.own k → k < wr.heap.size := by obtain ⟨P, hM, _⟩ := h1; exact hM.lt
    have hPa := h1.kept (O := fun _ => False) ((Fr.refl wr _).alloc (op k).obj) (fun _ _ q => q)
    refine (pa_enq hPa (by have := hB.rf; omega) (by have := hB.tk; omega) (op k).a (op k).b (op k).c).mono ?_
    rintro e w' ⟨rfl, y', hP', hs⟩
    refine ⟨_, rfl, ⟨by omega, _, _, PX.step (h2.alloc _) h3 hP' hs, ?_, ?_⟩, hkeep _ hPa hlt hs⟩
    · unfold enqP; split <;> rfl
    · have := hB.nw; have := hB.tk; have := hB.rf; have := hB.sn; have := hB.dr
      unfold enqP enqC
      split
      · exact ⟨by show p.newest ≤ k + 1; omega, by show c.taken + 1 ≤ k + 1; omega, by show c.refused ≤ k + 1; omega, by show c.sent ≤ 64 * (k + 1); omega, by show c.dropped ≤ 8 * (k + 1); omega⟩
      · exact ⟨by show p.newest ≤ k + 1; omega, by show c.taken ≤ k + 1; omega, by show c.refused + 1 ≤ k + 1; omega, by show c.sent ≤ 64 * (k + 1); omega, by show c.dropped ≤ 8 * (k + 1); omega⟩
  · rintro b k ck wr ⟨_, p, c, hPX, rfl, hB⟩ hk _
    obtain ⟨y, h1, h2, h3⟩ := hPX
    have hlt : ∀ k, y.own k → k < wr.heap.size := by obtain ⟨P, hM, _⟩ := h1; exact hM.lt
    have hl8 : (remL p (op k).a).length ≤ 8 := by
      obtain ⟨P, hM, hI, _⟩ := h1
      unfold remL
      split
      · exact Nat.zero_le _
      · rename_i x hx
        exact (hI.pi.wf.F x (lookI_some hx hI.pi.wf.nums).1).few
    have hPa := h1.kept (O := fun _ => False) ((Fr.refl wr _).alloc (op k).obj) (fun _ _ q => q)
    refine (pa_remove hPa (by have := hB.nw; omega) (by have := hB.dr; omega) (op k).a).mono ?_
    rintro e w' ⟨v, rfl, y', hP', hs, _⟩
    refine ⟨_, _, rfl, ⟨by omega, _, _, PX.step (h2.alloc _) h3 hP' hs, ?_, ?_⟩, hkeep _ hPa hlt hs⟩
    · unfold remP; split <;> rfl
    · have := hB.nw; have := hB.tk; have := hB.rf; have := hB.sn; have := hB.dr
      refine ⟨?_, by show c.taken ≤ k + 1; omega, by show c.refused ≤ k + 1; omega, by show c.sent ≤ 64 * (k + 1); omega, by show c.dropped + _ ≤ 8 * (k + 1); omega⟩
      unfold remP
      split
      · omega
      · show p.newest ≤ k + 1; omega
  · rintro b k ck wr ⟨_, p, c, hPX, rfl, hB⟩ hk _
    obtain ⟨y, h1, h2, h3⟩ := hPX
    have hlt : ∀ k, y.own k → k < wr.heap.size := by obtain ⟨P, hM, _⟩ := h1; exact hM.lt
    have hI : p.Inv := by obtain ⟨P, hM, hI, _⟩ := h1; exact hI
    have hPa := h1.kept (O := fun _ => False) ((Fr.refl wr _).alloc (op k).obj) (fun _ _ q => q)
    have hb1 := hB.nw; have hb2 := hB.tk; have hb3 := hB.rf; have hb4 := hB.sn; have hb5 := hB.dr
    by_cases hn : (op k).a ≤ 4000000000000000000
    · refine (pa_poll hPa (hTr (h2.alloc _)) (by omega) (by omega) (op k).a (op k).b hn).mono ?_
      rintro e w' ⟨v, rfl, n0, y', hP', hBA, hs, hn0⟩
      obtain ⟨a, cc, rfl⟩ := ba_len hBA
      have ht := poll_len hI (now := (op k).a.toNat) (by omega) (op k).b.toNat
      refine ⟨hkeep _ hPa hlt hs, .inr ⟨a, _, cc, rfl, hk, _, _, PX.step (h2.alloc _) h3 hP' hs, ?_, ⟨Nat.le_trans hb1 (by omega), by show c.taken ≤ k + 1; omega, by show c.refused ≤ k + 1; omega, by show c.sent + _ ≤ 64 * (k + 1); omega, by show c.dropped ≤ 8 * (k + 1); omega⟩, rfl, fun hm => poll_few (by omega)⟩⟩
      rw [poll_clock]; omega
    · refine (pa_poll_bad hPa (op k).a (op k).b (by omega)).mono ?_
      rintro e w' ⟨rfl, rfl⟩
      refine ⟨heap_alloc_new _ _, .inl ⟨_, rfl, by omega, p, c, ⟨y, hPa, h2.alloc _, h3⟩, rfl, ⟨by omega, by omega, by omega, by omega, by omega⟩⟩⟩
  · rintro b k ck m wr ⟨hk, p, c, ⟨y, h1, h2, h3⟩, rfl, hB, ha, hd⟩ _
    refine (pa_next h1 (hTr h2)).mono ?_
    rintro e w' ⟨v, rfl, hv, hP', hf⟩
    refine ⟨v, rfl, fun hm => ?_, ⟨by omega, p, c, ⟨y, hP', h2.trans hf (fun _ _ q => q), h3⟩, rfl, hB⟩, fun z hz => hf.blk z hz fun q => q⟩
    rcases least_due (least_next ha hv) (hd hm) with q | ⟨q, _⟩
    · exact .inl q
    · exact .inr q
  · rintro b k ck wr ⟨_, p, c, hPX, rfl, hB⟩ hk
    have := hB.nw; have := hB.tk; have := hB.rf; have := hB.sn; have := hB.dr
    exact ⟨by omega, p, c, hPX.alloc _, rfl, ⟨by omega, by omega, by omega, by omega, by omega⟩⟩
  · rintro b ck wr ⟨_, p, c, ⟨y, h1, h2, h3⟩, rfl, hB⟩
    have hI : p.Inv := by obtain ⟨P, hM, hI, _⟩ := h1; exact hI
    have hck := hI.pi.wf.clock
    have hb1 := hB.nw; have hb2 := hB.tk; have hb3 := hB.rf; have hb4 := hB.sn; have hb5 := hB.dr
    refine (pa_poll h1 (hTr h2) (by omega) (by omega) (p.st.clock : Int) 64 (by omega)).mono ?_
    rintro e w' ⟨v, rfl, n0, y', hP', hBA, hs, hn0⟩
    obtain ⟨a, cc, rfl⟩ := ba_len hBA
    have ht := poll_len hI (now := (p.st.clock : Int).toNat) (by omega) (64 : Int).toNat
    refine ⟨a, _, cc, rfl, ht.1, _, _, PX.step h2 h3 hP' hs, ?_, ⟨Nat.le_trans hb1 (by omega), by show c.taken ≤ n + 1; omega, by show c.refused ≤ n + 1; omega, by show c.sent + _ ≤ 64 * (n + 1); have := ht.2; show c.sent + total (p.poll (p.st.clock : Int).toNat (64 : Int).toNat).1 ≤ _; omega, by show c.dropped ≤ 8 * (n + 1); omega⟩, rfl, poll_all hI (by omega)⟩
    rw [poll_clock]; omega
  · rintro b ck wr ⟨p, c, ⟨y, h1, h2, h3⟩, rfl, hB, ha, hd⟩
    refine (pa_next h1 (hTr h2)).mono ?_
    rintro e w' ⟨v, rfl, hv, hP', hf⟩
    refine ⟨v, rfl, ?_⟩
    have hfr := h2.trans hf (fun _ _ q => q)
    rcases least_due (least_next ha hv) hd with q | ⟨q, q2⟩
    · exact .inl ⟨q, hfr⟩
    · by_cases hbig : 4000000000000000000 < v
      · exact .inr (.inl ⟨q, hbig, hfr⟩)
      · exact .inr (.inr ⟨q, by omega, by omega, p, c, ⟨y, hP', hfr, h3⟩, hB, ha, q, by omega, q2⟩)
  · rintro b v wr ⟨p, c, ⟨y, h1, h2, h3⟩, hB, ha, hv, hv2, a, haA, hva, hle⟩
    have hI : p.Inv := by obtain ⟨P, hM, hI, _⟩ := h1; exact hI
    have hb1 := hB.nw; have hb2 := hB.tk; have hb3 := hB.rf; have hb4 := hB.sn; have hb5 := hB.dr
    refine (pa_poll h1 (hTr h2) (by omega) (by omega) (v - 1) 9 (by omega)).mono ?_
    rintro e w' ⟨r, rfl, n0, y', hP', hBA, hs, hn0⟩
    have hst : (Pace.admit (Pace.tick p.st (v - 1).toNat) p.asks).A = p.st.A ∧ (Pace.admit (Pace.tick p.st (v - 1).toNat) p.asks).clock = max p.st.clock (v - 1).toNat := by rw [ha]; exact ⟨rfl, rfl⟩
    have hdue : Pace.due (Pace.admit (Pace.tick p.st (v - 1).toNat) p.asks) = none := by
      unfold Pace.due
      rw [hst.1, hst.2]
      cases hbe : Pace.best p.st.A with
      | none => rfl
      | some z =>
        have := hle z (Pace.best_some hbe).1
        simp only [Option.filter]
        rw [if_neg (by simp; omega)]
    have hrel : p.poll (v - 1).toNat (9 : Int).toNat = ([], { p with st := Pace.admit (Pace.tick p.st (v - 1).toNat) p.asks, asks := [] }) := by
      unfold Pace.PS.poll
      rw [rel_none hdue]
    rw [hrel] at hP' hBA
    obtain ⟨a', cc, rfl⟩ := ba_len hBA
    refine ⟨a', cc, 0, rfl, _, _, PX.step h2 h3 hP' hs, ⟨Nat.le_trans hb1 (by omega), by show c.taken ≤ n + 2; omega, by show c.refused ≤ n + 2; omega, by show c.sent + 0 ≤ 64 * (n + 2); omega, by show c.dropped ≤ 8 * (n + 2); omega⟩, rfl, ?_, hv2, a, ?_, hva, ?_⟩
    · show ((Pace.admit (Pace.tick p.st (v - 1).toNat) p.asks).clock : Int) < v
      rw [hst.2]; omega
    · show a ∈ (Pace.admit (Pace.tick p.st (v - 1).toNat) p.asks).A
      rw [hst.1]; exact haA
    · show ∀ z ∈ (Pace.admit (Pace.tick p.st (v - 1).toNat) p.asks).A, _
      rw [hst.1]; exact hle
  · rintro b v wr ⟨p, c, ⟨y, h1, h2, h3⟩, hB, ha, hv, hv2, a, haA, hva, hle⟩
    have hI : p.Inv := by obtain ⟨P, hM, hI, _⟩ := h1; exact hI
    have hb1 := hB.nw; have hb2 := hB.tk; have hb3 := hB.rf; have hb4 := hB.sn; have hb5 := hB.dr
    refine (pa_poll h1 (hTr h2) (by omega) (by omega) v 9 (by omega)).mono ?_
    rintro e w' ⟨r, rfl, n0, y', hP', hBA, hs, hn0⟩
    have hst : (Pace.admit (Pace.tick p.st v.toNat) p.asks).A = p.st.A ∧ (Pace.admit (Pace.tick p.st v.toNat) p.asks).clock = max p.st.clock v.toNat := by rw [ha]; exact ⟨rfl, rfl⟩
    have hdue : ∃ z, Pace.due (Pace.admit (Pace.tick p.st v.toNat) p.asks) = some z ∧ (z.at' : Int) = v := by
      unfold Pace.due
      rw [hst.1, hst.2]
      cases hbe : Pace.best p.st.A with
      | none => rw [Pace.best_none.1 hbe] at haA; cases haA
      | some z =>
        have k1 := hle z (Pace.best_some hbe).1
        have k2 := (Pace.best_some hbe).2 a haA
        refine ⟨z, ?_, by omega⟩
        simp only [Option.filter]
        rw [if_pos (by simp; omega)]
    obtain ⟨z, hd, hzv⟩ := hdue
    have hrel : (p.poll v.toNat (9 : Int).toNat).1 = (Pace.send (Pace.admit (Pace.tick p.st v.toNat) p.asks) z).1 :: (Pace.rel 8 (Pace.send (Pace.admit (Pace.tick p.st v.toNat) p.asks) z).2).1 := by
      show (Pace.rel (8 + 1) _).1 = _
      rw [Pace.rel, hd]
    rw [hrel] at hBA
    obtain ⟨g, cc, g2, o2, rfl, _, c1, _⟩ := ba_first hBA
    have hle8 := rel_le 8 (Pace.send (Pace.admit (Pace.tick p.st v.toNat) p.asks) z).2
    obtain ⟨y2, _, hfr, _⟩ := PX.step h2 h3 hP' hs
    refine ⟨g, _, cc, rfl, by omega, by omega, ?_, hfr⟩
    rw [c1, ← hzv]
    rfl
end Go.Proofs.YtogdekjklbbbiaaDoor

namespace Go.Proofs.YtogdekjklbbbiaaDoor
open Go.ChangeShapes Go.WideShapes Go.ChangeAt Go.RowKit
set_option linter.unusedSimpArgs false
set_option linter.unusedVariables false

structure WQ (w wr : World) (b z k ck : Nat) (al : Option Addr) (m cl : Nat) (p : Pace.PS) (c : Cn) (y : Lay) (gt sz : Nat) (l : List (Nat × Nat)) (L : List Pace.En) (v : Nat → Value) (ga gb gy : Nat → Nat) : Prop where
  pa : PA wr b y p c
  fr : Fr w wr (fun _ => False)
  ow : ∀ k, y.own k → w.heap.size < k
  ck : p.st.clock = ck
  bd : Bd p c k
  nw : 2 * p.newest ≤ k + p.st.fl.length
  ll : L.length ≤ k
  ws : WS w wr z al m cl gt sz l L v ga gb gy y.own
  wt : Pace.Wt p l L
theorem WQ.next {w wr w' : World} {b z k ck : Nat} {al : Option Addr} {m cl : Nat} {p : Pace.PS} {c : Cn} {y y' : Lay} {gt sz : Nat} {l : List (Nat × Nat)} {L : List Pace.En} {v : Nat → Value} {ga gb gy : Nat → Nat} (h : WQ w wr b z k ck al m cl p c y gt sz l L v ga gb gy) (ob : Obj) (hs : Stp (wr.alloc ob) w' y y') :
    Fr w w' (fun _ => False) ∧ (∀ k, y'.own k → w.heap.size < k) ∧ WS w w' z al m cl gt sz l L v ga gb gy y'.own ∧ w'.heap[wr.heap.size]? = some ob ∧ wr.heap.size < w'.heap.size := by
  have hsz : (wr.alloc ob).heap.size = wr.heap.size + 1 := by simp
  have hws : WS w (wr.alloc ob) z al m cl gt sz l L v ga gb gy y.own := h.ws.kept ((Fr.refl wr _).alloc ob) (fun _ _ q => q)
  have hfs := h.fr.size
  have hs2 := hs.fr.size
  refine ⟨(h.fr.alloc ob).trans hs.fr fun k hk q => by have := h.ow k q; omega, fun k hk => ?_, hws.kept hs.fr fun k hk q => hs.own hk q, ?_, by omega⟩
  · rcases Nat.lt_or_ge k (wr.alloc ob).heap.size with q | q
    · exact h.ow k (hs.own q hk)
    · omega
  · rw [hs.fr.blk wr.heap.size (by omega) fun q => by have := h.pa.olt _ q; omega]
    exact heap_alloc_new _ _
theorem addP_ok {p : Pace.PS} {r b : Int} (h : addR p r b = 0) : Pace.allowed r b ∧ p.st.fl.length ≠ 8 := by
  unfold addR at h
  by_cases ha : Pace.allowed r b
  · rw [if_pos ha] at h
    refine ⟨ha, fun e => ?_⟩
    rw [if_pos e] at h; omega
  · rw [if_neg ha] at h; omega
theorem setP_ok {p : Pace.PS} {f r b : Int} (h : setR p f r b = 0) : Pace.allowed r b ∧ ∃ x, lookI p.st.fl f = some x := by
  unfold setR at h
  split at h
  · omega
  · rename_i x hx
    by_cases ha : Pace.allowed r b
    · exact ⟨ha, x, hx⟩
    · rw [if_neg ha] at h; omega
set_option maxHeartbeats 2000000 in
theorem watch_any (q : Int) (sa : Option Addr) (n cp : Nat) (w : World) (hz : 0 < w.heap.size) (hT : TabW w) (hb : n < 8796093022208) (hsa : 0 < n → ∃ g o, sa = some ⟨g, o, none⟩) (op : Nat → OpV)
    (hC : ∀ k, k < n → ∀ g o, sa = some ⟨g, o, none⟩ → w.cell? ⟨g, o + k * 6, none⟩ = some (.int .i64 (op k).k) ∧ w.cell? ⟨g, o + k * 6 + 1, none⟩ = some (.int .i64 (op k).a) ∧ w.cell? ⟨g, o + k * 6 + 2, none⟩ = some (.int .i64 (op k).b) ∧ w.cell? ⟨g, o + k * 6 + 3, none⟩ = some (.int .i64 (op k).c) ∧ w.cell? ⟨g, o + k * 6 + 4, none⟩ = some (.int .i64 (op k).w) ∧ w.cell? ⟨g, o + k * 6 + 5, none⟩ = some (.slice (op k).sa (op k).sn (op k).sc)) :
    Calls Tryd.prog 18 #[.int .i64 q, .slice sa n cp] w fun e w' => ∃ T a0 c0 a1 c1 a2 c2 a3 c3 ra rb ry rc bc yc E L, e = .returned (.tuple #[.agg #[.slice a0 T c0, .slice a1 T c1, .slice a2 T c2, .slice a3 T c3], .bool true]) ∧ T < 8796093022208 ∧ SV w' T a0 a1 a2 a3 ra rb ry rc bc yc E ∧ ER T E L ∧ (∀ i, i < T → (E i).n < 8796093022208) ∧ ∀ w'', Below w'.heap.size w' w'' → Fr w w'' (fun _ => False) := by
  have hTr : ∀ {wr : World}, Fr w wr (fun _ => False) → TabW wr := fun hf => hT.fr hf (fun q => q) hz
  refine (watch_walk q sa n cp w hb hsa op
    (fun w' => Fr w w' (fun _ => False) ∧ w'.heap[w.heap.size]? = some seen0)
    (fun b w' => ∃ y, PA w' b y (Pace.PS.new q.toNat) ⟨0, 0, 0, 0, 0, 0⟩ ∧ Fr w w' (fun _ => False) ∧ (∀ k, y.own k → w.heap.size < k) ∧ w'.heap[w.heap.size]? = some seen0)
    (fun b z k ck al m cl wr => k ≤ n ∧ ∃ p c y gt sz l L v ga gb gy, WQ w wr b z k ck al m cl p c y gt sz l L v ga gb gy)
    (fun b z k ck al m cl wr => k < n ∧ ∃ (p : Pace.PS) (c : Cn) (y : Lay) (gt sz : Nat) (l : List (Nat × Nat)) (L : List Pace.En) (v : Nat → Value) (ga gb gy : Nat → Nat) (r bu : Nat), (op k).a = (r : Int) ∧ (op k).b = (bu : Int) ∧ r ≤ 1000000000 ∧ bu ≤ 1000000 ∧ PA wr b y (p.add r bu) c ∧ p.Inv ∧ p.st.fl.length < 8 ∧ Fr w wr (fun _ => False) ∧ (∀ k, y.own k → w.heap.size < k) ∧ p.st.clock = ck ∧ Bd (p.add r bu) c (k + 1) ∧ 2 * p.newest ≤ k + p.st.fl.length ∧ L.length ≤ k ∧ WS w wr z al m cl gt sz l L v ga gb gy y.own ∧ Pace.Wt p l L)
    (fun b z k ck al m cl wr => k < n ∧ ∃ (p : Pace.PS) (c : Cn) (y : Lay) (gt sz : Nat) (l : List (Nat × Nat)) (L : List Pace.En) (v : Nat → Value) (ga gb gy : Nat → Nat) (f r bu : Nat), (op k).a = (f : Int) + 1 ∧ (op k).b = (r : Int) ∧ (op k).c = (bu : Int) ∧ r ≤ 1000000000 ∧ bu ≤ 1000000 ∧ f < m ∧ p.Inv ∧ PA wr b y (p.set (f + 1) r bu) c ∧ Fr w wr (fun _ => False) ∧ (∀ k, y.own k → w.heap.size < k) ∧ p.st.clock = ck ∧ Bd p c (k + 1) ∧ 2 * p.newest ≤ k + p.st.fl.length ∧ L.length ≤ k ∧ WS w wr z al m cl gt sz l L v ga gb gy y.own ∧ Pace.Wt p l L)
    (fun b z k ck al m cl u wr => k < n ∧ ∃ (p : Pace.PS) (c : Cn) (y : Lay) (gt sz : Nat) (l : List (Nat × Nat)) (L : List Pace.En) (v : Nat → Value) (ga gb gy : Nat → Nat) (now B n0 : Nat), now ≤ 4000000000000000000 ∧ p.Inv ∧ PA wr b y (p.poll now B).2 c ∧ Fr w wr (fun _ => False) ∧ (∀ k, y.own k → w.heap.size < k) ∧ max p.st.clock now = ck ∧ Bd (p.poll now B).2 c (k + 1) ∧ 2 * p.newest ≤ k + p.st.fl.length ∧ L.length ≤ k ∧ WS w wr z al m cl gt sz l L v ga gb gy y.own ∧ Pace.Wt p l L ∧ BAi wr n0 (fun k => ¬ y.own k) ((p.poll now B).1.map up) u ∧ w.heap.size < n0 ∧ (0 < m → gt < n0) ∧ ∀ k, S4.own z v k → k < n0)
    (fun u w' => ∃ T a0 c0 a1 c1 a2 c2 a3 c3 ra rb ry rc bc yc E L, u = .agg #[.slice a0 T c0, .slice a1 T c1, .slice a2 T c2, .slice a3 T c3] ∧ T < 8796093022208 ∧ SV w' T a0 a1 a2 a3 ra rb ry rc bc yc E ∧ ER T E L ∧ (∀ i, i < T → (E i).n < 8796093022208) ∧ ∀ w'', Below w'.heap.size w' w'' → Fr w w'' (fun _ => False))
    ?_ ?_ ?_ ?_ ?_ ?_ ?_ ?_ ?_ ?_ ?_ ?_ ?_ ?_ ?_).mono ?_
  -- New
  · have hf0 : Fr w (w.alloc seen0) (fun _ => False) := (Fr.refl w _).alloc _
    have hsz : (w.alloc seen0).heap.size = w.heap.size + 1 := by simp
    by_cases hq : q < 1500 ∨ 1000000 < q
    · refine (new_bad q _ hq).mono ?_
      rintro e w' ⟨rfl, rfl⟩
      exact .inl ⟨rfl, hq, hf0, heap_alloc_new _ _⟩
    · refine (pa_new (w.alloc seen0) (by omega) q (by omega) (by omega)).mono ?_
      rintro e w' ⟨b, y, rfl, hP, hfr, hy⟩
      refine .inr ⟨b, rfl, y, hP, hf0.trans hfr (fun _ _ q => q), fun k hk => by have := hy k hk; omega, ?_⟩
      rw [hfr.blk _ (by omega) fun q => q]
      exact heap_alloc_new _ _
  -- no pacer
  · rintro w' ⟨hf, h4⟩
    refine ⟨h4, fun w'' hch => ⟨0, none, 0, none, 0, none, 0, none, 0, fun _ => none, fun _ => none, fun _ => none, fun _ => 0, fun _ => 0, fun _ => 0, fun _ => Pace.enD, [], rfl, by omega, ⟨fun i hi => by omega, fun i hi => by omega, fun i hi => by omega, fun i hi => by omega, fun i f hi => by omega, fun i f hi => by omega, fun i f hi => by omega⟩, ⟨rfl, fun i hi => by omega, fun i j _ hj => by omega, fun i hi => by omega, fun i d f hi => by omega, fun i hi => by omega, fun i hi => by omega⟩, fun i hi => by omega, fun w3 hB => ?_⟩⟩
    have h1 : Fr w w'' (fun _ => False) := hf.trans (hch.fr2 (O := fun a => a = w.heap.size) fun a o q => q) fun k hk q => by omega
    have h2 := h1.alloc seen0
    exact ⟨hB.os.trans h2.os, hB.tape.trans h2.tape, hB.output.trans h2.output, Nat.le_trans h2.size hB.size, fun k hk _ => (hB.block k (Nat.lt_of_lt_of_le hk h2.size)).trans (h2.blk k hk fun q => q)⟩
  -- the start
  · rintro b w' ⟨y, hP, hf, hy, h4⟩
    have hlt : w.heap.size < w'.heap.size := (Array.getElem?_eq_some_iff.1 h4).1
    have hzz : (w'.alloc seen0).heap[w'.heap.size]? = some seen0 := heap_alloc_new _ _
    obtain ⟨hs1, hs2⟩ := seen_cells hzz
    refine ⟨Nat.zero_le _, Pace.PS.new q.toNat, ⟨0, 0, 0, 0, 0, 0⟩, y, 0, 0, [], [], fun _ => .slice none 0 0, fun _ => 0, fun _ => 0, fun _ => 0, ⟨hP.kept (O := fun _ => False) ((Fr.refl w' _).alloc _) (fun _ _ q => q), hf.alloc _, hy, rfl, ⟨Nat.le_refl _, Nat.le_refl _, Nat.le_refl _, Nat.le_refl _, Nat.le_refl _⟩, Nat.zero_le _, Nat.le_refl _, ?_, Pace.Wt.new _⟩⟩
    refine ⟨(Below.heap_alloc _ _ _ hlt).trans h4, fun q => by have := hy _ q; omega, rfl, fun _ => ⟨rfl, rfl⟩, fun h0 => by omega, ⟨fun h0 => by omega, fun o h0 => by omega, fun i hi => by omega, fun i hi => by omega, fun i hi => by omega, fun i hi => by omega, fun h0 => by omega⟩, fun h0 => by omega, ⟨(Array.getElem?_eq_some_iff.1 hzz).1, hs2, hs1, fun i _ => ?_, fun i _ q => (by cases q), fun i j _ _ _ g hg => (by cases hg)⟩, ?_, fun i hi => by simp at hi, fun i hi => by simp at hi⟩
    · split <;> exact World.ownsRow_nil _ _ _ _
    · rintro k (rfl | ⟨i, _, q⟩)
      · exact ⟨fun q => by have := hP.olt _ q; omega, hlt, fun h0 => by omega⟩
      · cases q
  · rintro b z k ck al m cl wr ⟨_, p, c, y, gt, sz, l, L, v, ga, gb, gy, h⟩
    exact h.ws.z4
  -- the script's cells
  · rintro b z k ck al m cl wr ⟨_, p, c, y, gt, sz, l, L, v, ga, gb, gy, h⟩ hk
    refine ⟨by have := h.pa.inv.pi.wf.clock; have := h.ck; omega, fun g o e => ?_⟩
    have hcell := hC k hk g o e
    have hg : g < w.heap.size := World.block_lt_of_cell? _ _ hcell.1
    have hs : ∀ j, wr.cell? ⟨g, j, none⟩ = w.cell? ⟨g, j, none⟩ := fun j => World.cell?_of_block (w := w) (a := ⟨g, j, none⟩) (h.fr.blk g hg fun q => q)
    rw [hs, hs, hs, hs, hs, hs]
    exact hcell
  -- Add
  · rintro b z k ck al m cl wr ⟨_, p, c, y, gt, sz, l, L, v, ga, gb, gy, h⟩ hk h1
    have hPa := h.pa.kept (O := fun _ => False) ((Fr.refl wr _).alloc (op k).obj) (fun _ _ q => q)
    have hb1 := h.bd.nw; have hb2 := h.bd.tk; have hb3 := h.bd.rf; have hb4 := h.bd.sn; have hb5 := h.bd.dr
    refine (pa_addR hPa (by omega) (op k).a (op k).b).mono ?_
    rintro e w' ⟨rfl, y', hP', hs⟩
    obtain ⟨n1, n2, n3, n4, n5⟩ := h.next (op k).obj hs
    refine ⟨_, _, rfl, n4, ?_⟩
    by_cases hR : addR p (op k).a (op k).b = 0
    · obtain ⟨⟨a1, a2, a3, a4⟩, h8⟩ := addP_ok hR
      have hN : addN p (op k).a (op k).b = (p.newest : Int) + 1 := by unfold addN; rw [if_pos hR]
      have hPp : addP p (op k).a (op k).b = p.add (op k).a.toNat (op k).b.toNat := by unfold addP; rw [if_pos hR]
      rw [hPp] at hP'
      have hmn : m = p.newest := by rw [h.ws.len]; exact h.wt.len
      refine .inr ⟨hR, by rw [hN, hmn], hk, p, c, y', gt, sz, l, L, v, ga, gb, gy, (op k).a.toNat, (op k).b.toNat, by omega, by omega, by omega, by omega, hP', h.pa.inv, by have := h.pa.inv.few; omega, n1, n2, h.ck, ⟨by show p.newest + 1 ≤ k + 1; omega, by omega, by omega, by omega, by omega⟩, h.nw, h.ll, n3, h.wt⟩
    · have hPp : addP p (op k).a (op k).b = p := by unfold addP; rw [if_neg hR]
      rw [hPp] at hP'
      exact .inl ⟨hR, by omega, p, c, y', gt, sz, l, L, v, ga, gb, gy, ⟨hP', n1, n2, h.ck, ⟨by omega, by omega, by omega, by omega, by omega⟩, by have := h.nw; omega, by have := h.ll; omega, n3, h.wt⟩⟩
  · rintro b z k ck al m cl wr ⟨_, p, c, y, gt, sz, l, L, v, ga, gb, gy, r, bu, ha, hbq, hr, hbu, hP, hI, hf8, hfr, hy, hck, hB, hnw, hll, hws, hwt⟩ hk
    have hmn : m = p.newest := by rw [hws.len]; exact hwt.len
    obtain ⟨xs, hown, hxs⟩ := hws.row
    refine ⟨by omega, xs, hown, fun al' cl' w'' hown' hg => ?_⟩
    rw [ha, hbq] at hown'
    obtain ⟨gt', sz', hws', hfr'⟩ := hws.app (fun k hk => hP.olt k hk) hxs hown.1 _ 0 r bu hown' hg
    have hkeep : ∀ k, y.own k → ¬ (k = gt ∧ 0 < m) := fun k hk q => (hws.gF q.2).1 (by rw [← q.1]; exact hk)
    refine ⟨by omega, p.add r bu, c, y, gt', sz', l ++ [(r, bu)], L, v, ga, gb, gy, ⟨hP.kept hfr' hkeep, hfr.trans hfr' fun k hk q => by have := (hws.gF q.2).2; omega, hy, hck, hB, ?_, by omega, hws', hwt.add hI hr hbu⟩⟩
    show 2 * (p.newest + 1) ≤ k + 1 + (p.st.fl ++ [_]).length
    rw [List.length_append, List.length_singleton]; omega
  -- Set
  · rintro b z k ck al m cl wr ⟨_, p, c, y, gt, sz, l, L, v, ga, gb, gy, h⟩ hk h1
    have hPa := h.pa.kept (O := fun _ => False) ((Fr.refl wr _).alloc (op k).obj) (fun _ _ q => q)
    have hb1 := h.bd.nw; have hb2 := h.bd.tk; have hb3 := h.bd.rf; have hb4 := h.bd.sn; have hb5 := h.bd.dr
    refine (pa_set hPa (op k).a (op k).b (op k).c).mono ?_
    rintro e w' ⟨rfl, y', hP', hs⟩
    obtain ⟨n1, n2, n3, n4, n5⟩ := h.next (op k).obj hs
    refine ⟨_, rfl, n4, ?_⟩
    by_cases hR : setR p (op k).a (op k).b (op k).c = 0
    · obtain ⟨⟨a1, a2, a3, a4⟩, x, hx⟩ := setP_ok hR
      obtain ⟨x1, x2, x3, x4⟩ := lookI_some hx h.pa.inv.pi.wf.nums
      have hle := h.pa.inv.le x x1
      have hPp : setP p (op k).a (op k).b (op k).c = p.set (op k).a.toNat (op k).b.toNat (op k).c.toNat := by unfold setP; rw [if_pos hR]
      rw [hPp] at hP'
      have hmn : m = p.newest := by rw [h.ws.len]; exact h.wt.len
      have e1 : (op k).a.toNat = (x.num - 1) + 1 := by omega
      rw [e1] at hP'
      refine .inr ⟨hR, ⟨hk, p, c, y', gt, sz, l, L, v, ga, gb, gy, x.num - 1, (op k).b.toNat, (op k).c.toNat, by omega, by omega, by omega, by omega, by omega, by omega, h.pa.inv, hP', n1, n2, h.ck, ⟨by omega, by omega, by omega, by omega, by omega⟩, h.nw, h.ll, n3, h.wt⟩, ?_⟩
      obtain ⟨e2, _⟩ := h.ws.al1 (by omega)
      have := h.ws.tk.lt (by omega)
      rw [e2]
      intro q
      injection q with q
      have q' : gt = wr.heap.size := q
      omega
    · have hPp : setP p (op k).a (op k).b (op k).c = p := by unfold setP; rw [if_neg hR]
      rw [hPp] at hP'
      exact .inl ⟨hR, by omega, p, c, y', gt, sz, l, L, v, ga, gb, gy, ⟨hP', n1, n2, h.ck, ⟨by omega, by omega, by omega, by omega, by omega⟩, by have := h.nw; omega, by have := h.ll; omega, n3, h.wt⟩⟩
  · rintro b z k ck al m cl wr ⟨_, p, c, y, gt, sz, l, L, v, ga, gb, gy, f, r, bu, ha, hbq, hcq, hr, hbu, hfm, hI, hP, hfr, hy, hck, hB, hnw, hll, hws, hwt⟩ hk
    have h0 : 0 < m := by omega
    obtain ⟨e2, _⟩ := hws.al1 h0
    have hmn : m = p.newest := by rw [hws.len]; exact hwt.len
    have hb1 := hB.nw
    obtain ⟨hws', hfr'⟩ := hws.put hfm r bu
    rw [hbq, hcq]
    refine ⟨gt, f, e2, ha, hfm, by omega, ⟨_, hws.tk.c3 f hfm⟩, ⟨_, hws.tk.c4 f hfm⟩, fun o => hws.tk.fz o h0, by omega, p.set (f + 1) r bu, c, y, gt, sz, l.set f (r, bu), L, v, ga, gb, gy, ⟨hP.kept hfr' (fun k hk q => (hws.gF h0).1 (by rw [← q]; exact hk)), hfr.trans hfr' fun k hk q => by have := (hws.gF h0).2; omega, hy, hck, ⟨hB.nw, hB.tk, hB.rf, hB.sn, hB.dr⟩, by show 2 * p.newest ≤ k + 1 + p.st.fl.length; omega, by omega, hws', ?_⟩⟩
    have := hwt.set hI (f := f + 1) (r := r) (b := bu) (by omega) hr hbu
    rw [Nat.add_sub_cancel] at this
    exact this
  -- Enqueue
  · rintro b z k ck al m cl wr ⟨_, p, c, y, gt, sz, l, L, v, ga, gb, gy, h⟩ hk h1
    have hPa := h.pa.kept (O := fun _ => False) ((Fr.refl wr _).alloc (op k).obj) (fun _ _ q => q)
    have hb1 := h.bd.nw; have hb2 := h.bd.tk; have hb3 := h.bd.rf; have hb4 := h.bd.sn; have hb5 := h.bd.dr
    refine (pa_enq hPa (by omega) (by omega) (op k).a (op k).b (op k).c).mono ?_
    rintro e w' ⟨rfl, y', hP', hs⟩
    obtain ⟨n1, n2, n3, n4, n5⟩ := h.next (op k).obj hs
    have hnw := h.nw; have hll := h.ll
    refine ⟨_, rfl, by omega, _, _, y', gt, sz, l, L, v, ga, gb, gy, ⟨hP', n1, n2, ?_, ?_, ?_, by omega, n3, ?_⟩⟩
    · rw [← h.ck]; unfold enqP; split <;> rfl
    · unfold enqP enqC
      split
      · exact ⟨by show p.newest ≤ k + 1; omega, by show c.taken + 1 ≤ k + 1; omega, by show c.refused ≤ k + 1; omega, by show c.sent ≤ 64 * (k + 1); omega, by show c.dropped ≤ 8 * (k + 1); omega⟩
      · exact ⟨by show p.newest ≤ k + 1; omega, by show c.taken ≤ k + 1; omega, by show c.refused + 1 ≤ k + 1; omega, by show c.sent ≤ 64 * (k + 1); omega, by show c.dropped ≤ 8 * (k + 1); omega⟩
    · unfold enqP
      split
      · show 2 * p.newest ≤ k + 1 + (Pace.upd p.st.fl _ _).length
        rw [show (Pace.upd p.st.fl (op k).a.toNat (Pace.withPk (op k).b (op k).c.toNat)).length = p.st.fl.length by simp [Pace.upd]]
        omega
      · omega
    · unfold enqP
      split
      · exact h.wt.enq _ _ _
      · exact h.wt
  -- Remove
  · rintro b z k ck al m cl wr ⟨_, p, c, y, gt, sz, l, L, v, ga, gb, gy, h⟩ hk h1
    have hPa := h.pa.kept (O := fun _ => False) ((Fr.refl wr _).alloc (op k).obj) (fun _ _ q => q)
    have hb1 := h.bd.nw; have hb2 := h.bd.tk; have hb3 := h.bd.rf; have hb4 := h.bd.sn; have hb5 := h.bd.dr
    have hl8 : (remL p (op k).a).length ≤ 8 := by
      unfold remL
      split
      · exact Nat.zero_le _
      · rename_i x hx
        exact (h.pa.inv.pi.wf.F x (lookI_some hx h.pa.inv.pi.wf.nums).1).few
    refine (pa_remove hPa (by omega) (by omega) (op k).a).mono ?_
    rintro e w' ⟨u, rfl, y', hP', hs, _⟩
    obtain ⟨n1, n2, n3, n4, n5⟩ := h.next (op k).obj hs
    have hnw := h.nw; have hll := h.ll
    refine ⟨_, _, rfl, by omega, _, _, y', gt, sz, l, L, v, ga, gb, gy, ⟨hP', n1, n2, ?_, ?_, ?_, by omega, n3, ?_⟩⟩
    · rw [← h.ck]; unfold remP; split <;> rfl
    · refine ⟨?_, by show c.taken ≤ k + 1; omega, by show c.refused ≤ k + 1; omega, by show c.sent ≤ 64 * (k + 1); omega, by show c.dropped + _ ≤ 8 * (k + 1); omega⟩
      unfold remP
      split
      · omega
      · show p.newest ≤ k + 1; omega
    · unfold remP
      split
      · omega
      · rename_i x hx
        have := gone_length h.pa.inv.pi.wf.nums x.num
        show 2 * p.newest ≤ k + 1 + (Pace.gone p.st.fl x.num).length
        omega
    · unfold remP
      split
      · exact h.wt
      · exact h.wt.remove _
  -- Poll
  · rintro b z k ck al m cl wr ⟨_, p, c, y, gt, sz, l, L, v, ga, gb, gy, h⟩ hk h1
    have hPa := h.pa.kept (O := fun _ => False) ((Fr.refl wr _).alloc (op k).obj) (fun _ _ q => q)
    have hb1 := h.bd.nw; have hb2 := h.bd.tk; have hb3 := h.bd.rf; have hb4 := h.bd.sn; have hb5 := h.bd.dr
    have hsz : (wr.alloc (op k).obj).heap.size = wr.heap.size + 1 := by simp
    by_cases hn : (op k).a ≤ 4000000000000000000
    · refine (pa_poll hPa (hTr (h.fr.alloc _)) (by omega) (by omega) (op k).a (op k).b hn).mono ?_
      rintro e w' ⟨u, rfl, n0, y', hP', hBA, hs, hn0⟩
      obtain ⟨n1, n2, n3, n4, n5⟩ := h.next (op k).obj hs
      obtain ⟨a, cc, rfl⟩ := ba_len hBA
      have ht := poll_len h.pa.inv (now := (op k).a.toNat) (by omega) (op k).b.toNat
      have hfs := h.fr.size
      refine ⟨n4, .inr ⟨a, _, cc, rfl, hk, p, _, y', gt, sz, l, L, v, ga, gb, gy, (op k).a.toNat, (op k).b.toNat, n0, by omega, h.pa.inv, hP', n1, n2, ?_, ⟨Nat.le_trans hb1 (by omega), by show c.taken ≤ k + 1; omega, by show c.refused ≤ k + 1; omega, by show c.sent + _ ≤ 64 * (k + 1); omega, by show c.dropped ≤ 8 * (k + 1); omega⟩, h.nw, h.ll, n3, h.wt, hBA.up.imp fun g _ _ q q2 => q2 q, by omega, fun h0 => by have := h.ws.tk.lt h0; omega, fun k hk => by have := h.ws.s4.olt hk; omega⟩⟩
      have := h.ck
      omega
    · refine (pa_poll_bad hPa (op k).a (op k).b (by omega)).mono ?_
      rintro e w' ⟨rfl, rfl⟩
      obtain ⟨n1, n2, n3, n4, n5⟩ := h.next (op k).obj (Stp.refl _ _)
      have hnw := h.nw; have hll := h.ll
      exact ⟨n4, .inl ⟨none, 0, 1, rfl, by omega, by omega, by omega, p, c, y, gt, sz, l, L, v, ga, gb, gy, ⟨hPa, n1, n2, h.ck, ⟨by omega, by omega, by omega, by omega, by omega⟩, by omega, by omega, n3, h.wt⟩⟩⟩
  -- what it told is written down
  · rintro b z k ck al m cl u wr ⟨_, p, c, y, gt, sz, l, L, v, ga, gb, gy, now, B, n0, hnow, hI, hP, hfr, hy, hck, hB, hnw, hll, hws, hwt, hBA, hn0, hgn, hsn⟩ hk
    have hmn : m = p.newest := by rw [hws.len]; exact hwt.len
    obtain ⟨a, cc, pp, xc, gl, rfl, hBS, hgl, hpp⟩ := bs_of hBA
    have hb1 := hB.nw
    have hb1' : p.newest ≤ k + 1 := hb1
    have hpi := (hI.pi.tick hnow).admit
    have heach := rel_each hpi B
    have hlen := poll_len hI hnow B
    have hmem : ∀ i, i < ((p.poll now B).1.map up).length → ∃ q0, q0 ∈ (p.poll now B).1 ∧ ((p.poll now B).1.map up).getD i btD = up q0 := fun i hi => by
      rw [List.length_map] at hi
      refine ⟨(p.poll now B).1[i], List.getElem_mem hi, ?_⟩
      rw [List.getD, List.getElem?_map, List.getElem?_eq_getElem hi]; rfl
    have hal : 0 < m → al = some ⟨gt, 0, none⟩ := fun h0 => (hws.al1 h0).1
    refine (polled_walk z gt m sz cl L.length al (bvOf ((p.poll now B).1.map up)) a cc pp xc (ck : Int) (nrOf l) (nbOf l) v (xOf L ga gb gy) wr (by omega) (by omega) hal ?_ ?_ ?_ ?_ hBS hws.tk hws.s4 (fun h0 q => (hws.sF gt q).2.2 h0 rfl) ?_ ?_).mono ?_
    · show ((p.poll now B).1.map up).length ≤ 64
      rw [List.length_map]; exact hlen.1
    · intro i hi
      obtain ⟨q0, hq0, e⟩ := hmem i hi
      obtain ⟨_, h1, h2, _⟩ := heach q0 hq0
      show 0 < (((p.poll now B).1.map up).getD i btD).2.2.length ∧ (((p.poll now B).1.map up).getD i btD).2.2.length ≤ 8
      rw [e]; exact ⟨h1, h2⟩
    · intro i j hi hj
      obtain ⟨q0, hq0, e⟩ := hmem i hi
      obtain ⟨_, h1, h2, h3⟩ := heach q0 hq0
      have hj' : j < q0.2.2.length := by
        have : j < (((p.poll now B).1.map up).getD i btD).2.2.length := hj
        rw [e] at this; exact this
      show 0 ≤ (((((p.poll now B).1.map up).getD i btD).2.2.getD j (0, 0)).2 : Int) ∧ (((((p.poll now B).1.map up).getD i btD).2.2.getD j (0, 0)).2 : Int) ≤ 1500
      rw [e]
      have hm : (up q0).2.2.getD j (0, 0) ∈ q0.2.2 := by
        show q0.2.2.getD j (0, 0) ∈ q0.2.2
        rw [List.getD, List.getElem?_eq_getElem hj']
        exact List.getElem_mem hj'
      have := h3 _ hm
      omega
    · intro i hi
      obtain ⟨q0, hq0, e⟩ := hmem i hi
      obtain ⟨⟨x, hx, hxn⟩, _⟩ := heach q0 hq0
      have hxm : x.num ∈ (Pace.admit (Pace.tick p.st now) p.asks).fl.map (·.num) := List.mem_map.2 ⟨x, hx, rfl⟩
      rw [Pace.admit_nums, Pace.tick_nums] at hxm
      obtain ⟨x', hx', e'⟩ := List.mem_map.1 hxm
      have hle := hI.le x' hx'
      have e'' : x'.num = x.num := e'
      refine ⟨q0.1 - 1, by omega, ?_⟩
      show ((((p.poll now B).1.map up).getD i btD).1 : Int) = _
      rw [e]
      show (q0.1 : Int) = _
      omega
    · intro g o e h0
      obtain ⟨h1, h2, h3, h4, h5⟩ := hgl h0
      rw [h1] at e
      injection e with e
      injection e with e1 e2
      subst e1
      obtain ⟨q0, hq0, e⟩ := hmem 0 h0
      obtain ⟨⟨x, hx, hxn⟩, _⟩ := heach q0 hq0
      have hxm : x.num ∈ (Pace.admit (Pace.tick p.st now) p.asks).fl.map (·.num) := List.mem_map.2 ⟨x, hx, rfl⟩
      rw [Pace.admit_nums, Pace.tick_nums] at hxm
      obtain ⟨x', hx', e'⟩ := List.mem_map.1 hxm
      have hle := hI.le x' hx'
      have := hgn (by omega)
      exact ⟨by omega, h3⟩
    · intro i hi g o e
      obtain ⟨g', o', h1, h2, h3, h4, h5, h6, h7⟩ := hpp i hi
      rw [h1] at e
      injection e with e
      injection e with e1 e2
      subst e1
      obtain ⟨q0, hq0, e⟩ := hmem i hi
      obtain ⟨⟨x, hx, hxn⟩, _⟩ := heach q0 hq0
      have hxm : x.num ∈ (Pace.admit (Pace.tick p.st now) p.asks).fl.map (·.num) := List.mem_map.2 ⟨x, hx, rfl⟩
      rw [Pace.admit_nums, Pace.tick_nums] at hxm
      obtain ⟨x', hx', e'⟩ := List.mem_map.1 hxm
      have hle := hI.le x' hx'
      have := hgn (by omega)
      exact ⟨by omega, h3⟩
    · rintro e w' ⟨rfl, v', gR, gB, gY, hS4, hR, hBr, hY, hTK, hF, hown, k1, k2, k3⟩
      have hfO : ∀ k, (S4.own z v k ∨ (k = gt ∧ 0 < m)) → ¬ y.own k ∧ w.heap.size < k := fun k q => by
        rcases q with q | ⟨rfl, h0⟩
        · exact ⟨(hws.sF k q).1, (hws.sF k q).2.1⟩
        · exact hws.gF h0
      have hwsz : w.heap.size < wr.heap.size := (Array.getElem?_eq_some_iff.1 hws.z4).1
      have hPk := hP.kept hF fun k hk q => (hfO k q).1 hk
      have hylt := hP.olt
      have e0 : ck = (Pace.enOf (max p.st.clock now) l (p.poll now B).1).ck := hck.symm
      have hm2 : m = (Pace.enOf (max p.st.clock now) l (p.poll now B).1).n := hws.len
      have hlen2 : (L ++ [Pace.enOf (max p.st.clock now) l (p.poll now B).1]).length = L.length + 1 := by simp
      have hflen : (p.poll now B).2.st.fl.length = p.st.fl.length := by
        have := congrArg List.length (Pace.PS.poll_nums p now B)
        simpa using this
      have hold : ∀ i, i < L.length → ∀ g, (g = ga i ∨ g = gb i ∨ g = gy i) → g < wr.heap.size ∧ w'.heap[g]? = wr.heap[g]? := fun i hi g hg => by
        obtain ⟨r1, r2, r3⟩ := hws.rows i hi
        obtain ⟨q1, q2, q3, q4⟩ := hws.rF i hi g hg
        have hlt : g < wr.heap.size := by
          rcases hg with rfl | rfl | rfl
          · exact r1.lt
          · exact r2.lt
          · exact r3.lt
        exact ⟨hlt, hF.blk g hlt fun q => by
          rcases q with q | ⟨q, h0⟩
          · exact q4 q
          · exact q3 h0 q⟩
      refine ⟨rfl, by omega, (p.poll now B).2, c, y, gt, sz, l, L ++ [Pace.enOf (max p.st.clock now) l (p.poll now B).1], v', upd ga L.length gR, upd gb L.length gB, upd gy L.length gY, ⟨hPk, hfr.trans hF fun k hk q => by have := (hfO k q).2; omega, hy, by rw [poll_clock]; exact hck, hB, ?_, by rw [hlen2]; omega, ?_, hwt.poll hI hnow B⟩⟩
      · rw [hflen]
        show 2 * p.newest ≤ _
        omega
      · refine ⟨?_, hws.zF, hws.len, hws.al0, hws.al1, hTK, hws.gF, ?_, fun k hk => ?_, fun i hi => ?_, fun i hi g hg => ?_⟩
        · rw [hF.blk _ hwsz fun q => by have := (hfO _ q).2; omega]
          exact hws.z4
        · refine hS4.congr (fun _ _ => rfl) (fun i hi => ?_) (fun i hi => hlen2.symm)
          rw [xOf_snoc, ← hm2, ← e0]
        · rcases hown k hk with q | ⟨q, _⟩
          · exact hws.sF k q
          · exact ⟨fun q2 => by have := hylt k q2; omega, by omega, fun h0 e => by have := hws.tk.lt h0; omega⟩
        · rw [hlen2] at hi
          by_cases e : i = L.length
          · subst e
            rw [Pace.at_new, upd_same, upd_same, upd_same, ← hm2]
            refine ⟨hR, hBr, hY.congr fun f _ => ?_⟩
            show sumB _ f ((p.poll now B).1.map up).length = _
            rw [List.length_map, sumB_bytes _ _ _ (Nat.le_refl _), List.take_length]
            rfl
          · obtain ⟨r1, r2, r3⟩ := hws.rows i (by omega)
            rw [Pace.at_old (by omega)]
            simp only [upd, if_neg e]
            exact ⟨r1.kept (hold i (by omega) _ (.inl rfl)).2, r2.kept (hold i (by omega) _ (.inr (.inl rfl))).2, r3.kept (hold i (by omega) _ (.inr (.inr rfl))).2⟩
        · rw [hlen2] at hi
          by_cases e : i = L.length
          · subst e
            rw [upd_same, upd_same, upd_same] at hg
            have hgn2 : wr.heap.size ≤ g := by rcases hg with rfl | rfl | rfl <;> assumption
            refine ⟨fun q => by have := hylt g q; omega, by omega, fun h0 e => by have := hws.tk.lt h0; omega, fun q => ?_⟩
            rcases hown g q with q2 | ⟨_, q3, q4, q5⟩
            · have := hws.s4.olt q2; omega
            · rcases hg with rfl | rfl | rfl
              · exact q3 rfl
              · exact q4 rfl
              · exact q5 rfl
          · simp only [upd, if_neg e] at hg
            obtain ⟨q1, q2, q3, q4⟩ := hws.rF i (by omega) g hg
            have hlt := (hold i (by omega) g hg).1
            refine ⟨q1, q2, q3, fun q => ?_⟩
            rcases hown g q with q5 | ⟨q5, _⟩
            · exact q4 q5
            · omega
  -- another command
  · rintro b z k ck al m cl wr ⟨_, p, c, y, gt, sz, l, L, v, ga, gb, gy, h⟩ hk
    obtain ⟨n1, n2, n3, n4, n5⟩ := h.next (op k).obj (Stp.refl _ _)
    have hPa := h.pa.kept (O := fun _ => False) ((Fr.refl wr _).alloc (op k).obj) (fun _ _ q => q)
    have hb1 := h.bd.nw; have hb2 := h.bd.tk; have hb3 := h.bd.rf; have hb4 := h.bd.sn; have hb5 := h.bd.dr
    have hnw := h.nw; have hll := h.ll
    exact ⟨by omega, p, c, y, gt, sz, l, L, v, ga, gb, gy, ⟨hPa, n1, n2, h.ck, ⟨by omega, by omega, by omega, by omega, by omega⟩, by omega, by omega, n3, h.wt⟩⟩
  -- the end
  · rintro b z ck al m cl wr ⟨_, p, c, y, gt, sz, l, L, v, ga, gb, gy, h⟩
    have hws := h.ws
    have hzz := (hws.sF z (.inl rfl)).2.1
    have hwsz : w.heap.size < wr.heap.size := (Array.getElem?_eq_some_iff.1 hws.z4).1
    have hv : ∀ i, i < 4 → v i = .slice (sA (v i)) L.length (sC (v i)) := fun i hi => row_is (hws.s4.r i hi)
    have hc : ∀ i, i < 4 → wr.cell? ⟨z, i, none⟩ = some (.slice (sA (v i)) L.length (sC (v i))) := fun i hi => by rw [← hv i hi]; exact hws.s4.c i hi
    refine ⟨by omega, _, _, _, _, _, _, _, _, _, _, _, _, hc 0 (by omega), hc 1 (by omega), hc 2 (by omega), hc 3 (by omega), fun w'' hch => ?_⟩
    have hkeep : ∀ k, k ≠ w.heap.size → w''.heap[k]? = wr.heap[k]? := fun k hk => hch.blk k fun o q => hk q
    have hcell : ∀ g o, g ≠ w.heap.size → w''.cell? ⟨g, o, none⟩ = wr.cell? ⟨g, o, none⟩ := fun g o hg => World.cell?_of_block (w := wr) (a := ⟨g, o, none⟩) (hkeep g hg)
    have hrow : ∀ i, i < 4 → ∀ j, j < L.length → ∃ g, sA (v i) = some ⟨g, 0, none⟩ ∧ w''.cell? ⟨g, 0 + j, none⟩ = (xOf L ga gb gy i)[j]? := fun i hi j hj => by
      obtain ⟨g, cap, e, _, _, hog, _⟩ := row_shape (hws.s4.r i hi) (by omega)
      refine ⟨g, by rw [e]; rfl, ?_⟩
      have hgne : g ≠ w.heap.size := fun q => by have := (hws.sF g (.inr ⟨i, hi, hog⟩)).2.1; omega
      rw [hcell _ _ hgne, Nat.zero_add]
      obtain ⟨u, hu⟩ : ∃ u, (xOf L ga gb gy i)[j]? = some u := ⟨_, xOf_get hj⟩
      rw [hu]
      exact row_get0 (hws.s4.r i hi) hog hu
    have hwt := h.wt
    have hrowne : ∀ i, i < L.length → ga i ≠ w.heap.size ∧ gb i ≠ w.heap.size ∧ gy i ≠ w.heap.size := fun i hi => ⟨fun q => by have := (hws.rF i hi _ (.inl rfl)).2.1; omega, fun q => by have := (hws.rF i hi _ (.inr (.inl rfl))).2.1; omega, fun q => by have := (hws.rF i hi _ (.inr (.inr rfl))).2.1; omega⟩
    have hb1 := h.bd.nw
    have hll := h.ll
    refine ⟨L.length, _, _, _, _, _, _, _, _, fun i => some ⟨ga i, 0, none⟩, fun i => some ⟨gb i, 0, none⟩, fun i => some ⟨gy i, 0, none⟩, fun i => (Pace.at' L i).n, fun i => (Pace.at' L i).n, fun i => (Pace.at' L i).n, fun i => Pace.at' L i, L, rfl, by omega, ⟨fun i hi => ?_, fun i hi => ?_, fun i hi => ?_, fun i hi => ?_, fun i f hi hf => ?_, fun i f hi hf => ?_, fun i f hi hf => ?_⟩, ⟨rfl, fun _ _ => rfl, fun i j hij hj => hwt.mono i j hij hj, fun i hi => hwt.cks i hi, fun i d f hd hf => hwt.all i d f hd hf, fun i hi f hf => hwt.lim i hi f hf, fun i hi => hwt.ckm i hi⟩, fun i hi => (by have := hwt.cnt i hi; show (Pace.at' L i).n < _; omega), fun w3 hB => ?_⟩
    · obtain ⟨g, e, hg⟩ := hrow 0 (by omega) i hi
      exact ⟨g, 0, e, by rw [hg, xOf_get hi]; rfl⟩
    · obtain ⟨g, e, hg⟩ := hrow 1 (by omega) i hi
      exact ⟨g, 0, e, by rw [hg, xOf_get hi]; rfl⟩
    · obtain ⟨g, e, hg⟩ := hrow 2 (by omega) i hi
      exact ⟨g, 0, e, by rw [hg, xOf_get hi]; rfl⟩
    · obtain ⟨g, e, hg⟩ := hrow 3 (by omega) i hi
      exact ⟨g, 0, e, by rw [hg, xOf_get hi]; rfl⟩
    · exact ⟨ga i, 0, rfl, by rw [hcell _ _ (hrowne i hi).1, Nat.zero_add]; exact (hws.rows i hi).1.cell f hf⟩
    · exact ⟨gb i, 0, rfl, by rw [hcell _ _ (hrowne i hi).2.1, Nat.zero_add]; exact (hws.rows i hi).2.1.cell f hf⟩
    · exact ⟨gy i, 0, rfl, by rw [hcell _ _ (hrowne i hi).2.2, Nat.zero_add]; exact (hws.rows i hi).2.2.cell f hf⟩
    · have h2 : Fr w w'' (fun _ => False) := h.fr.trans (hch.fr2 (O := fun a => a = w.heap.size) fun a o q => q) fun k hk q => by omega
      exact ⟨hB.os.trans h2.os, hB.tape.trans h2.tape, hB.output.trans h2.output, Nat.le_trans h2.size hB.size, fun k hk _ => (hB.block k (Nat.lt_of_lt_of_le hk h2.size)).trans (h2.blk k hk fun q => q)⟩
  · rintro e w' ⟨u, rfl, T, a0, c0, a1, c1, a2, c2, a3, c3, ra, rb, ry, rc, bc, yc, E, L, rfl, h⟩
    exact ⟨T, a0, c0, a1, c1, a2, c2, a3, c3, ra, rb, ry, rc, bc, yc, E, L, rfl, h⟩
/-- Bound, all but the row. -/
theorem bound_any (q : Int) (sa : Option Addr) (n cp : Nat) (w : World) (hz : 0 < w.heap.size) (hT : TabW w) (hb : n < 8796093022208) (hsa : 0 < n → ∃ g o, sa = some ⟨g, o, none⟩) (op : Nat → OpV)
    (hC : ∀ k, k < n → ∀ g o, sa = some ⟨g, o, none⟩ → w.cell? ⟨g, o + k * 6, none⟩ = some (.int .i64 (op k).k) ∧ w.cell? ⟨g, o + k * 6 + 1, none⟩ = some (.int .i64 (op k).a) ∧ w.cell? ⟨g, o + k * 6 + 2, none⟩ = some (.int .i64 (op k).b) ∧ w.cell? ⟨g, o + k * 6 + 3, none⟩ = some (.int .i64 (op k).c) ∧ w.cell? ⟨g, o + k * 6 + 4, none⟩ = some (.int .i64 (op k).w) ∧ w.cell? ⟨g, o + k * 6 + 5, none⟩ = some (.slice (op k).sa (op k).sn (op k).sc)) :
    Calls Tryd.prog 5 #[.int .i64 q, .slice sa n cp] w fun e w' => e = .returned (.bool true) ∧ Fr w w' (fun _ => False) := by
  refine bound_walk q sa n cp w (fun w1 => Fr w w1 (fun _ => False)) (fun w' => Fr w w' (fun _ => False)) (alive_any w hz hT) fun w1 hf => ?_
  have hz1 : 0 < w1.heap.size := Nat.lt_of_lt_of_le hz hf.size
  refine (watch_any q sa n cp w1 hz1 (hT.fr hf (fun q => q) hz) hb hsa op (fun k hk g o e => ?_)).mono ?_
  · have hcell := hC k hk g o e
    have hg : g < w.heap.size := World.block_lt_of_cell? _ _ hcell.1
    have hs : ∀ j, w1.cell? ⟨g, j, none⟩ = w.cell? ⟨g, j, none⟩ := fun j => World.cell?_of_block (w := w) (a := ⟨g, j, none⟩) (hf.blk g hg fun q => q)
    rw [hs, hs, hs, hs, hs, hs]
    exact hcell
  · rintro e w' ⟨T, a0, c0, a1, c1, a2, c2, a3, c3, ra, rb, ry, rc, bc, yc, E, L, rfl, hT', hSV, hER, hn, hB⟩
    exact ⟨T, a0, c0, a1, c1, a2, c2, a3, c3, ra, rb, ry, rc, bc, yc, E, L, rfl, hT', hSV, hER, hn, fun w'' h => hf.trans (hB w'' h) fun _ _ q => q⟩
end Go.Proofs.YtogdekjklbbbiaaDoor
