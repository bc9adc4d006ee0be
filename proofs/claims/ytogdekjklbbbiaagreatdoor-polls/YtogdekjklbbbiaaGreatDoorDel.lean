import Derived.Test.YtogdekjklbbbiaaGreatDoorFf
import Derived.Test.YtogdekjklbbbiaaGreatDoorZ02
import Derived.Lib.SliceRun
set_option maxRecDepth 100000
namespace Go.Proofs.YtogdekjklbbbiaaGreatDoor
open Go.ChangeShapes Go.WideShapes Go.ChangeAt Go.RowKit
set_option linter.unusedSimpArgs false
set_option linter.unusedVariables false

/-- The cells of the row g have turned, and nothing else. -/
structure RowSet (w w1 : World) (g : Nat) (e : TypeId) (cs : List Value) : Prop where
  at' : w1.heap[g]? = some (.cells cs.toArray e (0, 0))
  oth : ∀ k, k ≠ g → w1.heap[k]? = w.heap[k]?
  os : w1.os = w.os
  tape : w1.tape = w.tape
  output : w1.output = w.output
  size : w1.heap.size = w.heap.size
theorem rowSet {w : World} {g : Nat} {e : TypeId} {cur : Array Value} (hg : w.heap[g]? = some (.cells cur e (0, 0))) (cs : List Value) : RowSet w (w.setRow g cs.toArray) g e cs :=
  ⟨setRow_heap w g cur _ e (0, 0) hg, fun k hk => setRow_other _ _ _ _ hk, rfl, rfl, rfl, by simp⟩
/-- An append in place, as one step. -/
theorem step_append_in {P : Program} {ops : Array Oper} {o : Oper} {a : Act} {w : World} {K : Act → World → Prop} {Q : Exit → Act → World → Prop} {E : Prop}
    (hgd : o.guard = none) (s x : Operand) (t : TypeId) (hop : o.op = Op.call { callee := Callee.builtin Builtin.append, args := #[s, x], argTypes := #[t, t] })
    (e : TypeId) (i : TypeInfo) (ht : P.underlying t = some (.slice e)) (hi : P.info? e = some i)
    (g sLen sCap : Nat) (cur : Array Value) (hs : a.eval s = .slice (some ⟨g, 0, none⟩) sLen sCap) (hg : w.heap[g]? = some (.cells cur e (0, 0)))
    (ad : Addr) (m c : Nat) (news : List Value) (hx : a.eval x = .slice (some ad) m c) (hl : news.length = m * i.size) (hnews : ∀ j u, news[j]? = some u → w.cell? (ad.add j) = some u) (h1 : ∀ u ∈ news, u.oneCell' = true)
    (hroom : sLen + m ≤ sCap) (hfit : sLen * i.size + news.length ≤ cur.size)
    (hK : ∀ w1, RowSet w w1 g e (cur.toList.take (sLen * i.size) ++ news ++ cur.toList.drop (sLen * i.size + news.length)) → K (a.put o.dst (.slice (some ⟨g, 0, none⟩) (sLen + m) sCap)) w1) :
    if Region.wanted o (yielded ops a.tmps) = true then Oper.wp P o a w K Q else E := by
  have hw : Region.wanted o (yielded ops a.tmps) = true := by simp [Region.wanted, hgd]
  rw [if_pos hw]
  have hr := run_append_room (P := P) w t o.type e i ht hi g sLen sCap cur hg ad m c news hl hnews h1 hroom hfit
  have hK := hK _ (rowSet hg _)
  generalize w.setRow g (cur.toList.take (sLen * i.size) ++ news ++ cur.toList.drop (sLen * i.size + news.length)).toArray = w' at hr hK
  unfold Oper.wp
  simp [execOp, hop, resolve, invoke, builtin, hs, hx, hr, Result.andThen]
  exact hK
/-- A clear of a piece of a row. -/
theorem run_clear_row {P : Program} (w : World) (t e ty : TypeId) (z : Value) (ht : P.underlying t = some (.slice e)) (hv : ∀ w, (zeroValue e).run P w = .ok z w) (g o n c : Nat) (cur : Array Value) (hg : w.heap[g]? = some (.cells cur e (0, 0)))
    (hn : 0 < n) (hfit : o + (Builtin.zeroCells z.cells n).toList.length ≤ cur.size) (h1 : ∀ v ∈ (Builtin.zeroCells z.cells n).toList, v.oneCell' = true) :
    (Builtin.clear_ #[t] ty #[.slice (some ⟨g, o, none⟩) n c]).run P w = .ok (.tuple #[]) (w.setRow g (cur.toList.take o ++ (Builtin.zeroCells z.cells n).toList ++ cur.toList.drop (o + (Builtin.zeroCells z.cells n).toList.length)).toArray) := by
  have hst := run_storeCells_at P g o e (Builtin.zeroCells z.cells n).toList 0 cur w hg (by simpa using hfit) h1
  simp only [Nat.add_zero] at hst
  obtain ⟨m, rfl⟩ : ∃ m, n = m + 1 := ⟨n - 1, by omega⟩
  simp [Builtin.clear_, run_underlying ht, hv, hst]
theorem wpList_clear_row {P : Program} {w : World} {ops : Array Oper} {rest : List Oper} {o : Oper} {a : Act} {Q : Exit → Act → World → Prop} (hgd : o.guard = none) (s : Operand) (t : TypeId)
    (ho : o.op = .call { callee := .builtin .clear, args := #[s], argTypes := #[t] }) (e : TypeId) (z : Value) (ht : P.underlying t = some (.slice e)) (hv : ∀ w, (zeroValue e).run P w = .ok z w) (g off n c : Nat) (cur : Array Value) (hs : a.eval s = .slice (some ⟨g, off, none⟩) n c) (hg : w.heap[g]? = some (.cells cur e (0, 0)))
    (hn : 0 < n) (hfit : off + (Builtin.zeroCells z.cells n).toList.length ≤ cur.size) (h1 : ∀ v ∈ (Builtin.zeroCells z.cells n).toList, v.oneCell' = true)
    (h : ∀ w1, RowSet w w1 g e (cur.toList.take off ++ (Builtin.zeroCells z.cells n).toList ++ cur.toList.drop (off + (Builtin.zeroCells z.cells n).toList.length)) → wpList P ops Q rest (a.put o.dst (.tuple #[])) w1) :
    wpList P ops Q (o :: rest) a w := by
  refine wpList_plain hgd fun K hK => ?_
  have hr := run_clear_row (P := P) w t e o.type z ht hv g off n c cur hg hn hfit h1
  have h := h _ (rowSet hg _)
  generalize w.setRow g (cur.toList.take off ++ (Builtin.zeroCells z.cells n).toList ++ cur.toList.drop (off + (Builtin.zeroCells z.cells n).toList.length)).toArray = w' at hr h
  unfold Oper.wp
  simp [execOp, ho, resolve, invoke, builtin, hs, hr, Result.andThen]
  exact hK _ _ h
theorem zero_len (z : Array Value) (n : Nat) : (Builtin.zeroCells z n).toList.length = n * z.size := by simp [Builtin.zeroCells]
theorem zero_mem {z : Array Value} {n : Nat} {v : Value} (hv : v ∈ (Builtin.zeroCells z n).toList) : v ∈ z := by
  simp [Builtin.zeroCells] at hv
  obtain ⟨a, ha, e⟩ := hv
  have hz : 0 < z.size := by
    rcases Nat.eq_zero_or_pos z.size with q | q
    · rw [q] at ha; simp at ha
    · exact q
  have hlt : a % z.size < z.size := Nat.mod_lt _ hz
  simp [hlt] at e
  rw [← e]
  exact Array.getElem_mem ..
/-- What a row is behind a cut. -/
def DP (w w' : World) (n0 e sz n : Nat) (v v' : Value) (xs : List Value) : Prop := w'.ownsRow n0 e sz v' n xs ∧ v'.ownBlock = v.ownBlock ∧ w.grownBy w' v.ownBlock ∧ w'.heap.size = w.heap.size
theorem cut_lists {α : Type} (sz : Nat) {cur xs : List α} {n cap i j : Nat} (hc : cur.length = cap * sz) (hn : n ≤ cap) (hx : cur.take (n * sz) = xs) (hij : i ≤ j) (hj : j ≤ n) :
    (xs.drop (j * sz)).length = (n - j) * sz ∧ (∀ k u, (xs.drop (j * sz))[k]? = some u → cur[j * sz + k]? = some u) ∧ cur.take (i * sz) = xs.take (i * sz) := by
  have h1 : n * sz ≤ cap * sz := Nat.mul_le_mul_right _ hn
  have h2 : j * sz ≤ n * sz := Nat.mul_le_mul_right _ hj
  have h3 : i * sz ≤ j * sz := Nat.mul_le_mul_right _ hij
  subst hx
  refine ⟨by rw [List.length_drop, List.length_take, hc, Nat.min_eq_left h1, Nat.sub_mul], fun k u hu => ?_, ?_⟩
  · rw [List.getElem?_drop, List.getElem?_take] at hu
    split at hu
    · exact hu
    · cases hu
  · rw [List.take_take, Nat.min_eq_left (by omega)]

theorem zero102 (w : World) : (zeroValue 87).run Tryz.prog w = .ok (.agg #[.int .i64 0, .int .i64 0]) w := by kernel_rfl
set_option maxHeartbeats 1000000 in
theorem del96_walk (n0 g n cap i j : Nat) (cur : Array Value) (xs : List Value) (w : World) (hg : w.heap[g]? = some (.cells cur 87 (0, 0))) (hng : n0 ≤ g) (hnc : n ≤ cap) (hcm : cap ≤ maxLen) (hcs : cur.size = cap * 2) (hx : cur.toList.take (n * 2) = xs)
    (hone : ∀ u ∈ xs, u.oneCell' = true) (hij : i < j) (hj : j ≤ n) :
    Calls Tryz.prog 117 #[.slice (some ⟨g, 0, none⟩) n cap, .int .i64 (i : Int), .int .i64 (j : Int)] w fun e w' => ∃ v', e = .returned v' ∧ DP w w' n0 87 2 (n - (j - i)) (.slice (some ⟨g, 0, none⟩) n cap) v' (xs.take (i * 2) ++ xs.drop (j * 2)) := by
  obtain ⟨i1, hj1, hy0, hy1, hy2⟩ := info_parts info102
  unfold maxLen at hcm
  obtain ⟨l1, l2, l3⟩ := cut_lists 2 (cur := cur.toList) (xs := xs) (n := n) (cap := cap) (by simpa using hcs) hnc (by simpa using hx) (Nat.le_of_lt hij) hj
  have b1 : (0 : Int) ≤ (i : Int) := by omega
  have b2 : (i : Int) < (j : Int) := by omega
  have b3 : (j : Int) ≤ (n : Int) := by omega
  have b4 : (n : Int) ≤ (cap : Int) := by omega
  have b5 : (cap : Int) ≤ 9223372036854775807 := by omega
  have HX := hide hx; have HL1 := hide l1; have HL2 := hide l2; have HL3 := hide l3; have HOne := hide hone; have HG := hide hg; have HCS := hide hcs
  clear hx l1 l2 l3 hone hg hcs
  have hicap : i ≤ cap := by omega
  obtain ⟨o2, ho2, hnw⟩ : ∃ o2, (if cap = j then some (⟨g, 0, none⟩ : Addr) else some ⟨g, j * 2, none⟩) = some ⟨g, o2, none⟩ ∧ ∀ k u, (xs.drop (j * 2))[k]? = some u → w.drew.cell? ((⟨g, o2, none⟩ : Addr).add k) = some u := by
    by_cases hcj : cap = j
    · refine ⟨0, by rw [if_pos hcj], fun k u hu => ?_⟩
      have hl := unhide HL1
      rw [show n - j = 0 by omega] at hl
      have hl : (xs.drop (j * 2)).length = 0 := by omega
      rw [List.eq_nil_of_length_eq_zero hl] at hu
      simp at hu
    · refine ⟨j * 2, by rw [if_neg hcj], fun k u hu => ?_⟩
      rw [add_lit, cdrew, heap_cell (unhide HG)]
      have := unhide HL2 k u hu
      rw [← this]; simp
  have HNW := hide hnw
  clear hnw
  have h1c : Hid (∀ u ∈ xs.drop (j * 2), u.oneCell' = true) := fun u hu => unhide HOne u (List.mem_of_mem_drop hu)
  have hlen1 := hide (show (xs.drop (j * 2)).length = (n - j) * i1.size by rw [hy1, unhide HL1])
  have hroom1 : i + (n - j) ≤ cap := by omega
  have hfit1 := hide (show i * i1.size + (xs.drop (j * 2)).length ≤ cur.size by
    rw [hy1, unhide HL1, unhide HCS]; omega)
  go_enter Tryz.func117, Tryz.ntmps117
  go_wp2_with fail
  go_region_law (refine step_append_in rfl (.tmp 22) (.tmp 25) 83 rfl 87 i1 Tryz.underlying83 hj1 g i cap cur (by simp [Act.eval, Act.put]) (unhide HG) ⟨g, o2, none⟩ (n - j) (cap - j) (xs.drop (j * 2)) (by simp [Act.eval, Act.put, ho2]) (unhide hlen1) (unhide HNW) (unhide h1c) hroom1 (unhide hfit1) ?_; intro w1 hset1; have HSet1 := hide hset1; clear hset1)
  all_goals
    obtain ⟨cur1, hcu, hs1, ht1⟩ : ∃ cur1 : Array Value, cur1 = (cur.toList.take (i * i1.size) ++ xs.drop (j * 2) ++ cur.toList.drop (i * i1.size + (xs.drop (j * 2)).length)).toArray ∧ cur1.size = cap * 2 ∧ cur1.toList.take ((i + (n - j)) * 2) = xs.take (i * 2) ++ xs.drop (j * 2) := by
      refine ⟨_, rfl, ?_, ?_⟩
      · have h2 := unhide hfit1
        have h3 := unhide HCS
        rw [hy1] at h2 ⊢
        simp at h2 h3 ⊢
        omega
      · have hlx := unhide HL1
        have h4 := unhide HL3
        simp only [hy1, Nat.mul_one]
        rw [← h4]
        have hl2 : (cur.toList.take (i * 2) ++ xs.drop (j * 2)).length = (i + (n - j)) * 2 := by
          rw [List.length_append, hlx, List.length_take]
          have h3 := unhide HCS
          simp at h3 ⊢
          omega
        rw [← hl2]
        exact List.take_left ..
    have HG1 : Hid (w1.heap[g]? = some (.cells cur1 87 (0, 0))) := by rw [hcu]; exact (unhide HSet1).at'
    have HT1 := hide ht1; have HS1 := hide hs1
    clear hcu ht1 hs1
    have c1 : (i : Int) + ((n - j : Nat) : Int) ≤ (n : Int) := by omega
    have c2 : i + (n - j) ≤ n := by omega
    have c3 : (cap = i + (n - j)) = False := by simp; omega
    have c4 : n - (i + (n - j)) = j - i := by omega
    have c5 : 0 < j - i := by omega
    have hfit2 := hide (show (i + (n - j)) * 2 + (Builtin.zeroCells (.agg #[.int .i64 0, .int .i64 0] : Value).cells (j - i)).toList.length ≤ cur1.size by
      rw [zero_len, unhide HS1, show (.agg #[.int .i64 0, .int .i64 0] : Value).cells.size = 2 from rfl]
      omega)
    have hz1 : Hid (∀ v ∈ (Builtin.zeroCells (.agg #[.int .i64 0, .int .i64 0] : Value).cells (j - i)).toList, v.oneCell' = true) := by
      intro v hv
      have := zero_mem hv
      simp [Value.cells] at this
      rw [this]; rfl
    obtain ⟨w2, hrun2, hset2⟩ : ∃ w2, (Builtin.clear_ #[83] 0 #[.slice (some ⟨g, (i + (n - j)) * 2, none⟩) (j - i) (cap - (i + (n - j)))]).run Tryz.prog w1 = .ok (.tuple #[]) w2 ∧ RowSet w1 w2 g 87 (cur1.toList.take ((i + (n - j)) * 2) ++ (Builtin.zeroCells (.agg #[.int .i64 0, .int .i64 0] : Value).cells (j - i)).toList ++ cur1.toList.drop ((i + (n - j)) * 2 + (Builtin.zeroCells (.agg #[.int .i64 0, .int .i64 0] : Value).cells (j - i)).toList.length)) :=
      ⟨_, run_clear_row (P := Tryz.prog) w1 83 87 0 (.agg #[.int .i64 0, .int .i64 0]) Tryz.underlying83 zero102 g _ (j - i) _ cur1 (unhide HG1) c5 (unhide hfit2) (unhide hz1), rowSet (unhide HG1) _⟩
    have HSet2 := hide hset2
    clear hset2
    go_wp2_with fail
    go_ret
    refine ⟨_, rfl, ⟨?_, .inr ⟨g, cap, _, ?_, hng, (unhide HSet2).at', ?_, ?_, ?_, ?_⟩⟩, rfl, ?_, ?_⟩
    · rw [← unhide HT1, List.length_take, Nat.min_eq_left]
      · rw [show i + (n - j) = n - (j - i) by omega]
      · have := unhide HS1
        simp at this ⊢
        omega
    · rw [show i + (n - j) = n - (j - i) by omega]; rfl
    · omega
    · unfold maxLen; omega
    · have h5 := unhide hfit2
      have h6 := unhide HS1
      simp at h5 ⊢
      omega
    · rw [← unhide HT1, show i + (n - j) = n - (j - i) by omega]
      have h6 := unhide HS1
      simp only [List.append_assoc]
      rw [List.take_append_of_le_length (by simp at h6 ⊢; omega), List.take_take, Nat.min_self]
    · have a1 := unhide HSet1; have a2 := unhide HSet2
      refine ⟨a2.os.trans a1.os, a2.tape.trans a1.tape, a2.output.trans a1.output, by rw [a2.size, a1.size]; exact Nat.le_refl _, fun k hk hne => ?_⟩
      have hkg : k ≠ g := fun e => hne (by rw [e]; rfl)
      exact (a2.oth k hkg).trans (a1.oth k hkg)
    · exact (unhide HSet2).size.trans (unhide HSet1).size

theorem info132 : (Tryz.prog.info? 159).map (fun i => (i.zero, i.size, i.bytes)) = some (some (.pointer none), 1, 8) := by kernel_rfl

theorem zero132 (w : World) : (zeroValue 159).run Tryz.prog w = .ok (.pointer none) w := by kernel_rfl
set_option maxHeartbeats 1000000 in
theorem del53_walk (n0 g n cap i j : Nat) (cur : Array Value) (xs : List Value) (w : World) (hg : w.heap[g]? = some (.cells cur 159 (0, 0))) (hng : n0 ≤ g) (hnc : n ≤ cap) (hcm : cap ≤ maxLen) (hcs : cur.size = cap) (hx : cur.toList.take (n) = xs)
    (hone : ∀ u ∈ xs, u.oneCell' = true) (hij : i < j) (hj : j ≤ n) :
    Calls Tryz.prog 80 #[.slice (some ⟨g, 0, none⟩) n cap, .int .i64 (i : Int), .int .i64 (j : Int)] w fun e w' => ∃ v', e = .returned v' ∧ DP w w' n0 159 1 (n - (j - i)) (.slice (some ⟨g, 0, none⟩) n cap) v' (xs.take (i) ++ xs.drop (j)) := by
  obtain ⟨i1, hj1, hy0, hy1, hy2⟩ := info_parts info132
  unfold maxLen at hcm
  obtain ⟨l1, l2, l3⟩ := cut_lists 1 (cur := cur.toList) (xs := xs) (n := n) (cap := cap) (by simpa using hcs) hnc (by simpa using hx) (Nat.le_of_lt hij) hj
  simp only [Nat.mul_one] at l1 l2 l3
  have b1 : (0 : Int) ≤ (i : Int) := by omega
  have b2 : (i : Int) < (j : Int) := by omega
  have b3 : (j : Int) ≤ (n : Int) := by omega
  have b4 : (n : Int) ≤ (cap : Int) := by omega
  have b5 : (cap : Int) ≤ 9223372036854775807 := by omega
  have HX := hide hx; have HL1 := hide l1; have HL2 := hide l2; have HL3 := hide l3; have HOne := hide hone; have HG := hide hg; have HCS := hide hcs
  clear hx l1 l2 l3 hone hg hcs
  have hicap : i ≤ cap := by omega
  obtain ⟨o2, ho2, hnw⟩ : ∃ o2, (if cap = j then some (⟨g, 0, none⟩ : Addr) else some ⟨g, j, none⟩) = some ⟨g, o2, none⟩ ∧ ∀ k u, (xs.drop (j))[k]? = some u → w.drew.cell? ((⟨g, o2, none⟩ : Addr).add k) = some u := by
    by_cases hcj : cap = j
    · refine ⟨0, by rw [if_pos hcj], fun k u hu => ?_⟩
      have hl := unhide HL1
      rw [show n - j = 0 by omega] at hl
      have hl : (xs.drop (j)).length = 0 := by omega
      rw [List.eq_nil_of_length_eq_zero hl] at hu
      simp at hu
    · refine ⟨j, by rw [if_neg hcj], fun k u hu => ?_⟩
      rw [add_lit, cdrew, heap_cell (unhide HG)]
      have := unhide HL2 k u hu
      rw [← this]; simp
  have HNW := hide hnw
  clear hnw
  have h1c : Hid (∀ u ∈ xs.drop (j), u.oneCell' = true) := fun u hu => unhide HOne u (List.mem_of_mem_drop hu)
  have hlen1 := hide (show (xs.drop (j)).length = (n - j) * i1.size by rw [hy1, unhide HL1, Nat.mul_one])
  have hroom1 : i + (n - j) ≤ cap := by omega
  have hfit1 := hide (show i * i1.size + (xs.drop (j)).length ≤ cur.size by
    rw [hy1, unhide HL1, unhide HCS]; omega)
  go_enter Tryz.func80, Tryz.ntmps80
  go_wp2_with fail
  go_region_law (refine step_append_in rfl (.tmp 22) (.tmp 25) 51 rfl 159 i1 Tryz.underlying51 hj1 g i cap cur (by simp [Act.eval, Act.put]) (unhide HG) ⟨g, o2, none⟩ (n - j) (cap - j) (xs.drop (j)) (by simp [Act.eval, Act.put, ho2]) (unhide hlen1) (unhide HNW) (unhide h1c) hroom1 (unhide hfit1) ?_; intro w1 hset1; have HSet1 := hide hset1; clear hset1)
  all_goals
    obtain ⟨cur1, hcu, hs1, ht1⟩ : ∃ cur1 : Array Value, cur1 = (cur.toList.take (i * i1.size) ++ xs.drop (j) ++ cur.toList.drop (i * i1.size + (xs.drop (j)).length)).toArray ∧ cur1.size = cap ∧ cur1.toList.take ((i + (n - j))) = xs.take (i) ++ xs.drop (j) := by
      refine ⟨_, rfl, ?_, ?_⟩
      · have h2 := unhide hfit1
        have h3 := unhide HCS
        rw [hy1] at h2 ⊢
        simp at h2 h3 ⊢
        omega
      · have hlx := unhide HL1
        have h4 := unhide HL3
        simp only [hy1, Nat.mul_one]
        rw [← h4]
        have hl2 : (cur.toList.take (i) ++ xs.drop (j)).length = (i + (n - j)) := by
          rw [List.length_append, hlx, List.length_take]
          have h3 := unhide HCS
          simp at h3 ⊢
          omega
        rw [← hl2]
        exact List.take_left ..
    have HG1 : Hid (w1.heap[g]? = some (.cells cur1 159 (0, 0))) := by rw [hcu]; exact (unhide HSet1).at'
    have HT1 := hide ht1; have HS1 := hide hs1
    clear hcu ht1 hs1
    have c1 : (i : Int) + ((n - j : Nat) : Int) ≤ (n : Int) := by omega
    have c2 : i + (n - j) ≤ n := by omega
    have c3 : (cap = i + (n - j)) = False := by simp; omega
    have c4 : n - (i + (n - j)) = j - i := by omega
    have c5 : 0 < j - i := by omega
    have hfit2 := hide (show (i + (n - j)) + (Builtin.zeroCells (.pointer none : Value).cells (j - i)).toList.length ≤ cur1.size by
      rw [zero_len, unhide HS1, show (.pointer none : Value).cells.size = 1 from rfl]
      omega)
    have hz1 : Hid (∀ v ∈ (Builtin.zeroCells (.pointer none : Value).cells (j - i)).toList, v.oneCell' = true) := by
      intro v hv
      have := zero_mem hv
      simp [Value.cells] at this
      rw [this]; rfl
    obtain ⟨w2, hrun2, hset2⟩ : ∃ w2, (Builtin.clear_ #[51] 0 #[.slice (some ⟨g, (i + (n - j)), none⟩) (j - i) (cap - (i + (n - j)))]).run Tryz.prog w1 = .ok (.tuple #[]) w2 ∧ RowSet w1 w2 g 159 (cur1.toList.take ((i + (n - j))) ++ (Builtin.zeroCells (.pointer none : Value).cells (j - i)).toList ++ cur1.toList.drop ((i + (n - j)) + (Builtin.zeroCells (.pointer none : Value).cells (j - i)).toList.length)) :=
      ⟨_, run_clear_row (P := Tryz.prog) w1 51 159 0 (.pointer none) Tryz.underlying51 zero132 g _ (j - i) _ cur1 (unhide HG1) c5 (unhide hfit2) (unhide hz1), rowSet (unhide HG1) _⟩
    have HSet2 := hide hset2
    clear hset2
    go_wp2_with fail
    go_ret
    refine ⟨_, rfl, ⟨?_, .inr ⟨g, cap, _, ?_, hng, (unhide HSet2).at', ?_, ?_, ?_, ?_⟩⟩, rfl, ?_, ?_⟩
    · rw [← unhide HT1, List.length_take, Nat.min_eq_left]
      · rw [show i + (n - j) = n - (j - i) by omega, Nat.mul_one]
      · have := unhide HS1
        simp at this ⊢
        omega
    · rw [show i + (n - j) = n - (j - i) by omega]; rfl
    · omega
    · unfold maxLen; omega
    · have h5 := unhide hfit2
      have h6 := unhide HS1
      simp at h5 ⊢
      omega
    · rw [← unhide HT1, show i + (n - j) = n - (j - i) by omega]
      have h6 := unhide HS1
      simp only [List.append_assoc]
      rw [List.take_append_of_le_length (by simp at h6 ⊢; omega), List.take_take, Nat.mul_one, Nat.min_self]
    · have a1 := unhide HSet1; have a2 := unhide HSet2
      refine ⟨a2.os.trans a1.os, a2.tape.trans a1.tape, a2.output.trans a1.output, by rw [a2.size, a1.size]; exact Nat.le_refl _, fun k hk hne => ?_⟩
      have hkg : k ≠ g := fun e => hne (by rw [e]; rfl)
      exact (a2.oth k hkg).trans (a1.oth k hkg)
    · exact (unhide HSet2).size.trans (unhide HSet1).size

set_option maxHeartbeats 1000000 in
theorem index_walk (g cap : Nat) (xs : List Nat) (x k0 : Nat) (w : World) (hlen : xs.length ≤ 8) (hk0 : xs[k0]? = some x) (hlt : ∀ k, k < k0 → xs[k]? ≠ some x)
    (hrow : ∀ k y, xs[k]? = some y → w.cell? ⟨g, k, none⟩ = some (.pointer (some ⟨y, 0, none⟩))) (hx : ∀ y ∈ xs, (∃ v, w.cell? ⟨y, 0, none⟩ = some v) ∧ ∀ o, w.frozen? ⟨y, o, none⟩ = false) :
    Calls Tryz.prog 79 #[.slice (some ⟨g, 0, none⟩) xs.length cap, .pointer (some ⟨x, 0, none⟩)] w fun e w' => e = .returned (.int .i64 (k0 : Int)) ∧ w' = w := by
  have HRD := hide hrow; have HLT := hide hlt; have HK0 := hide hk0; have HXX := hide hx
  have hxm : x ∈ xs := List.mem_of_getElem? hk0
  have hk0l : k0 < xs.length := (List.getElem?_eq_some_iff.1 hk0).1
  clear hrow hlt hk0 hx
  go_enter Tryz.func79, Tryz.ntmps79
  go_wp2_with fail
  go_loopg [8] xs.length (fun gk i wr => wr = w ∧ ∃ k : Nat, i = .int .i64 (k : Int) ∧ gk = xs.length - k ∧ k ≤ k0)
  case atStart => exact ⟨rfl, 0, rfl, rfl, Nat.zero_le _⟩
  case round =>
    obtain ⟨hwr, k, hu, hgk, hkl⟩ := hrel
    rw [hu, hwr]
    clear hu hwr
    have hk : k < xs.length := by omega
    have hki : (k : Int) < (xs.length : Int) := by omega
    have hkk : (0 : Int) ≤ (k : Int) := by omega
    have hg3 := unhide HRD k xs[k] (List.getElem?_eq_getElem hk)
    have hne : k < k0 → xs[k] ≠ x := fun h e => unhide HLT k h (by rw [List.getElem?_eq_getElem hk, e])
    have heq : k = k0 → xs[k] = x := fun h => by
      have := unhide HK0
      rw [← h, List.getElem?_eq_getElem hk] at this
      injection this
    have hym : xs[k] ∈ xs := List.getElem_mem hk
    generalize xs[k] = y at hg3 hne heq hym
    have HNE := hide hne; have HEQ := hide heq; have HGK := hide hgk
    clear hne heq hgk
    by_cases he : k = k0
    · have hyx := unhide HEQ he
      subst he
      subst hyx
      have hqq := eqp_same w y
      go_wp2_with fail
      go_ret
      exact ⟨rfl, rfl⟩
    · have hyx : x ≠ y := fun e => unhide HNE (by omega) e.symm
      obtain ⟨⟨vx, hvx⟩, hfx⟩ := unhide HXX x hxm
      obtain ⟨⟨vy, hvy⟩, hfy⟩ := unhide HXX y hym
      have hqq := eqp_ne hyx hvx hvy hfx hfy
      clear hvx hfx hvy hfy
      go_wp2_with fail
      go_roundg (xs.length - (k + 1))
      case measure => rw [unhide HGK]; omega
      case rel => exact ⟨rfl, k + 1, by go_num, rfl, by omega⟩
set_option maxHeartbeats 1000000 in
theorem clone_nil (w : World) : Calls Tryz.prog 84 #[.slice none 0 0] w fun e w' => e = .returned (.slice none 0 0) ∧ w' = w := by
  have hq := Lib.run_eql_slice_nil (P := Tryz.prog) w 83 87 none 0 0 0 0 Tryz.underlying83
  go_enter Tryz.func84, Tryz.ntmps84
  go_wp2_with fail
  go_ret
  exact ⟨rfl, rfl⟩
def ClP (w w' : World) (n : Nat) (v : Value) (xs : List Value) : Prop := w'.ownsRow w.heap.size 87 2 v n xs ∧ w.grownBy w' none
set_option maxHeartbeats 1000000 in
theorem clone_walk (g n cap : Nat) (xs : List Value) (w : World) (hn : n ≤ 8) (hl : xs.length = n * 2) (hone : ∀ u ∈ xs, u.oneCell' = true) (hcell : ∀ j u, xs[j]? = some u → w.cell? ⟨g, j, none⟩ = some u) :
    Calls Tryz.prog 84 #[.slice (some ⟨g, 0, none⟩) n cap] w fun e w' => ∃ v, e = .returned v ∧ ClP w w' n v xs := by
  obtain ⟨i1, hj, hy0, hy1, hy2⟩ := info_parts info102
  have HC := hide hcell; have HOne := hide hone
  clear hcell hone
  have hq := Lib.run_eql_slice_nil (P := Tryz.prog) w 83 87 (some ⟨g, 0, none⟩) n cap 0 0 Tryz.underlying83
  go_enter Tryz.func84, Tryz.ntmps84
  have hown0 := World.ownsRow_made (e := 87) (size := 2) (base := w.heap.size) w #[] 0 (Nat.le_refl _) (by decide) (by simp)
  have HOw := hide hown0
  have HC1 : Hid (∀ j u, xs[j]? = some u → (w.alloc (.cells #[] 87)).cell? ((⟨g, 0, none⟩ : Addr).add j) = some u) := fun j u hu => by
    rw [add_lit, Nat.zero_add]
    exact old_cell (unhide HC j u hu) _
  clear hown0
  go_wp2_with (first | (at_builtin; refine wpList_append2 rfl _ _ 83 rfl w.heap.size 87 i1 (.agg #[.int .i64 0, .int .i64 0]) 2 16 Tryz.underlying83 hj hy0 hy1 hy2 rfl (by decide) (.slice (some ⟨w.heap.size, 0, none⟩) 0 0) 0 [] rfl (unhide HOw) ⟨g, 0, none⟩ n cap xs rfl hl (unhide HC1) (unhide HOne) (by unfold maxLen; omega) (by omega) (by simp) ?_; intro v1 w1 hown1 hgr1; have HOwn1 := hide hown1; have HGr1 := hide hgr1; clear hown1 hgr1))
  go_ret
  refine ⟨_, rfl, by simpa using unhide HOwn1, ?_⟩
  have hsz : (w.alloc (.cells #[] 87)).heap.size = w.heap.size + 1 := by simp
  obtain ⟨o1, o2, o3, o4⟩ := app_size (unhide HGr1)
  refine ⟨o1, o2, o3, by omega, fun k hk _ => ?_⟩
  refine (app_blk (unhide HGr1) (by omega) (fun e => ?_)).trans (Below.heap_alloc _ _ _ hk)
  simp [Value.ownBlock] at e
  omega
end Go.Proofs.YtogdekjklbbbiaaGreatDoor
