import Derived.Test.YtogdekjklbbbiaaDoorPush
import Derived.Test.YtogdekjklbbbiaaDoorCh
import Derived.Deep.LoopGhost
import Derived.Deep.RegionHeld3
import Derived.Test.YtogdekjklbbbiaaDoorFf
import Derived.Test.YtogdekjklbbbiaaDoorMap
set_option maxRecDepth 100000
namespace Go.Proofs.YtogdekjklbbbiaaDoor
open Go.ChangeShapes Go.WideShapes Go.ChangeAt Go.RowKit
set_option linter.unusedSimpArgs false
set_option linter.unusedVariables false

/-- Batches in memory, by their numbers. -/
structure BV where
  n : Nat
  fl : Nat → Int
  st : Nat → Int
  ln : Nat → Nat
  tg : Nat → Nat → Int
  le : Nat → Nat → Int
/-- A slice's cells, as the batches. -/
structure BS (w : World) (B : BV) (a : Option Addr) (p : Nat → Option Addr) (c : Nat → Nat) : Prop where
  row : ∀ i, i < B.n → ∃ g o, a = some ⟨g, o, none⟩ ∧ w.cell? ⟨g, o + i * 3, none⟩ = some (.int .i64 (B.fl i)) ∧ w.cell? ⟨g, o + i * 3 + 1, none⟩ = some (.int .i64 (B.st i)) ∧ w.cell? ⟨g, o + i * 3 + 2, none⟩ = some (.slice (p i) (B.ln i) (c i))
  pk : ∀ i j, i < B.n → j < B.ln i → ∃ g o, p i = some ⟨g, o, none⟩ ∧ w.cell? ⟨g, o + j * 2, none⟩ = some (.int .i64 (B.tg i j)) ∧ w.cell? ⟨g, o + j * 2 + 1, none⟩ = some (.int .i64 (B.le i j))
set_option maxHeartbeats 2000000 in
/-- alike, of the same batches. -/
theorem alike_walk (B : BV) (aa ab : Option Addr) (ca cb : Nat) (pa pb : Nat → Option Addr) (xa xb : Nat → Nat) (w : World) (hn : B.n < 1000) (hl : ∀ i, i < B.n → B.ln i < 1000) (hA : BS w B aa pa xa) (hB : BS w B ab pb xb) :
    Calls Tryd.prog 60 #[.slice aa B.n ca, .slice ab B.n cb] w fun e w' => e = .returned (.bool true) ∧ Ch w w' (fun _ _ => False) := by
  have HA := hide hA; have HB := hide hB; have HL := hide hl
  clear hA hB hl
  have e1 : ((B.n : Int) != (B.n : Int)) = false := by simp
  go_enter Tryd.func60, Tryd.ntmps60
  go_wp2_with fail
  go_loopg [5] B.n (fun gk i wr => ∃ k : Nat, i = .int .i64 (k : Int) ∧ gk = B.n - k ∧ k ≤ B.n ∧ Ch w wr (fun _ _ => False))
  case atStart => exact ⟨0, rfl, rfl, Nat.zero_le _, Ch.refl _ _⟩
  case round =>
    obtain ⟨k, hu, hgk, hkn, hc⟩ := hrel
    rw [hu]
    clear hu
    have HC := hide hc; have HG := hide hgk
    by_cases hk : k < B.n
    · obtain ⟨ga, oa, ha, a0, a1, a2⟩ := (unhide HA).row k hk
      obtain ⟨gb, ob, hb, b0, b1, b2⟩ := (unhide HB).row k hk
      rw [← hc.cell ga _ (fun q => q)] at a0 a1 a2
      rw [← hc.cell gb _ (fun q => q)] at b0 b1 b2
      subst ha hb
      have hki : (k : Int) < (B.n : Int) := by omega
      have hk0 : (0 : Int) ≤ (k : Int) := by omega
      have hx0 : (B.fl k != B.fl k) = false := by simp
      have hx1 : (B.st k != B.st k) = false := by simp
      have hx2 : ((B.ln k : Int) != (B.ln k : Int)) = false := by simp
      have hlk := unhide HL k hk
      clear hgk hc
      go_wp2_with fail
      go_quiet (fail)
      go_wp2_with fail
      go_loopg [6] (B.ln k) (fun gk i wr => ∃ j : Nat, i = .int .i64 (j : Int) ∧ gk = B.ln k - j ∧ j ≤ B.ln k ∧ Ch w wr (fun _ _ => False))
      case atStart => exact ⟨0, rfl, rfl, Nat.zero_le _, (unhide HC).drewN _⟩
      case round =>
        obtain ⟨j, hu, hgj, hjn, hc⟩ := hrel
        rw [hu]
        clear hu
        have HC2 := hide hc; have HGJ := hide hgj
        obtain ⟨ga', oa', ha', a0', a1', a2'⟩ := (unhide HA).row k hk
        obtain ⟨gb', ob', hb', b0', b1', b2'⟩ := (unhide HB).row k hk
        rw [← hc.cell ga' _ (fun q => q)] at a2'
        rw [← hc.cell gb' _ (fun q => q)] at b2'
        injection ha' with ha'
        injection ha' with ea eo _
        subst ea eo
        injection hb' with hb'
        injection hb' with ea eo _
        subst ea eo
        clear a0 a1 a2 b0 b1 b2 a0' a1' b0' b1'
        by_cases hj : j < B.ln k
        · obtain ⟨g1, o1, hp1, c0, c1⟩ := (unhide HA).pk k j hk hj
          obtain ⟨g2, o2, hp2, d0, d1⟩ := (unhide HB).pk k j hk hj
          rw [← hc.cell g1 _ (fun q => q)] at c0 c1
          rw [← hc.cell g2 _ (fun q => q)] at d0 d1
          rw [hp1] at a2'
          rw [hp2] at b2'
          have hji : (j : Int) < (B.ln k : Int) := by omega
          have hj0 : (0 : Int) ≤ (j : Int) := by omega
          have hy0 : (B.tg k j != B.tg k j) = false := by simp
          have hy1 : (B.le k j != B.le k j) = false := by simp
          clear hgj hc hp1 hp2
          go_wp2_with fail
          go_quiet (fail)
          go_wp2_with fail
          go_roundg (B.ln k - (j + 1))
          case measure => rw [unhide HGJ]; omega
          case rel => exact ⟨j + 1, by go_num, rfl, by omega, (unhide HC2).drewN _⟩
        · have hji : ¬ (j : Int) < (B.ln k : Int) := by omega
          clear hgj hc
          go_wp2_with fail
          go_roundg (B.n - (k + 1))
          case measure => rw [unhide HG]; omega
          case rel => exact ⟨k + 1, by go_num, rfl, by omega, unhide HC2⟩
    · have hki : ¬ (k : Int) < (B.n : Int) := by omega
      clear hc hgk
      go_wp2_with fail
      go_ret
      exact ⟨rfl, unhide HC⟩
end Go.Proofs.YtogdekjklbbbiaaDoor

namespace Go.Proofs.YtogdekjklbbbiaaDoor
open Go.ChangeShapes Go.WideShapes Go.ChangeAt Go.RowKit
set_option linter.unusedSimpArgs false
set_option linter.unusedVariables false

/-- Packets as cells. -/
def pcl (n : Nat) (tg le : Nat → Int) : List Value := (List.range n).flatMap fun j => [.int .i64 (tg j), .int .i64 (le j)]
theorem pcl_succ (n : Nat) (tg le : Nat → Int) : pcl (n + 1) tg le = pcl n tg le ++ [.int .i64 (tg n), .int .i64 (le n)] := by simp [pcl, List.range_succ]
theorem pcl_length (n : Nat) (tg le : Nat → Int) : (pcl n tg le).length = n * 2 := by
  induction n with
  | zero => rfl
  | succ n ih => rw [pcl_succ, List.length_append, ih]; simp; omega
theorem pcl_get {n : Nat} {tg le : Nat → Int} {j : Nat} {u : Value} (h : (pcl n tg le)[j]? = some u) : ∃ i, i < n ∧ ((j = i * 2 ∧ u = .int .i64 (tg i)) ∨ (j = i * 2 + 1 ∧ u = .int .i64 (le i))) := by
  induction n with
  | zero => simp [pcl] at h
  | succ n ih =>
    rw [pcl_succ] at h
    have hl := pcl_length n tg le
    rcases Nat.lt_or_ge j (n * 2) with q | q
    · rw [List.getElem?_append_left (by omega)] at h
      obtain ⟨i, hi, h'⟩ := ih h
      exact ⟨i, by omega, h'⟩
    · rw [List.getElem?_append_right (by omega), hl] at h
      refine ⟨n, by omega, ?_⟩
      have hj : j - n * 2 < 2 := by
        have := (List.getElem?_eq_some_iff.1 h).1
        simpa using this
      rcases Nat.lt_or_ge (j - n * 2) 1 with q2 | q2
      · have e : j - n * 2 = 0 := by omega
        rw [e] at h
        simp at h
        exact .inl ⟨by omega, h.symm⟩
      · have e : j - n * 2 = 1 := by omega
        rw [e] at h
        simp at h
        exact .inr ⟨by omega, h.symm⟩
theorem pcl_at {n : Nat} {tg le : Nat → Int} {i : Nat} (h : i < n) : (pcl n tg le)[i * 2]? = some (.int .i64 (tg i)) ∧ (pcl n tg le)[i * 2 + 1]? = some (.int .i64 (le i)) := by
  induction n with
  | zero => omega
  | succ n ih =>
    rw [pcl_succ]
    have hl := pcl_length n tg le
    by_cases e : i < n
    · rw [List.getElem?_append_left (by omega), List.getElem?_append_left (by omega)]
      exact ih e
    · have : i = n := by omega
      subst this
      rw [List.getElem?_append_right (by omega), List.getElem?_append_right (by omega), hl]
      simp
theorem pcl_one (n : Nat) (tg le : Nat → Int) : ∀ u ∈ pcl n tg le, u.oneCell' = true := by
  intro u hu
  simp only [pcl, List.mem_flatMap] at hu
  obtain ⟨p, _, hp⟩ := hu
  simp at hp
  rcases hp with rfl | rfl <;> rfl

/-- A slice of packets that may be grown: full, or one's own. -/
def GP (w : World) (K : Nat → Prop) (p : Option Addr) (n c : Nat) (tg le : Nat → Int) : Prop :=
  (∃ g o, p = some ⟨g, o, none⟩ ∧ c = n ∧ ∀ j, j < n → w.cell? ⟨g, o + j * 2, none⟩ = some (.int .i64 (tg j)) ∧ w.cell? ⟨g, o + j * 2 + 1, none⟩ = some (.int .i64 (le j))) ∨
  (w.ownsRow 0 102 2 (.slice p n c) n (pcl n tg le) ∧ ∀ k, (Value.slice p n c).ownBlock = some k → K k)
/-- A grown slice of packets. -/
structure GR (w : World) (h n : Nat) (tg le : Nat → Int) : Prop where
  lt : h < w.heap.size
  fz : ∀ o, w.frozen? ⟨h, o, none⟩ = false
  old : ∀ j, j < n → w.cell? ⟨h, j * 2, none⟩ = some (.int .i64 (tg j)) ∧ w.cell? ⟨h, j * 2 + 1, none⟩ = some (.int .i64 (le j))
  new : w.cell? ⟨h, n * 2, none⟩ = some (.int .i64 (-7)) ∧ w.cell? ⟨h, n * 2 + 1, none⟩ = some (.int .i64 (-7))
theorem GR.kept {w w' : World} {h n : Nat} {tg le : Nat → Int} (q : GR w h n tg le) (hk : w'.heap[h]? = w.heap[h]?) : GR w' h n tg le := by
  have hc : ∀ o, w'.cell? ⟨h, o, none⟩ = w.cell? ⟨h, o, none⟩ := fun o => World.cell?_of_block (w := w) (a := ⟨h, o, none⟩) hk
  refine ⟨?_, fun o => (frozen_of hk o).trans (q.fz o), fun j hj => by rw [hc, hc]; exact q.old j hj, by rw [hc, hc]; exact q.new⟩
  have := q.lt
  rw [Array.getElem?_eq_getElem this] at hk
  exact (Array.getElem?_eq_some_iff.1 hk).1
theorem gr_of_row {w : World} {v : Value} {n : Nat} {tg le : Nat → Int} (h : w.ownsRow 0 102 2 v (n + 1) (pcl n tg le ++ [.int .i64 (-7), .int .i64 (-7)])) : ∃ g cap, v = .slice (some ⟨g, 0, none⟩) (n + 1) cap ∧ v.ownBlock = some g ∧ GR w g n tg le := by
  have hl := pcl_length n tg le
  rcases h.2 with ⟨_, hn⟩ | ⟨g, cap, cur, rfl, h1, h2, h3, h4, h5, h6⟩
  · omega
  · have hc : ∀ j u, (pcl n tg le ++ [Value.int .i64 (-7), .int .i64 (-7)])[j]? = some u → w.cell? ⟨g, j, none⟩ = some u := fun j u hu => by
      have := h.cells (g := g) rfl j u hu
      rw [add_lit, Nat.zero_add] at this
      exact this
    refine ⟨g, cap, rfl, rfl, (Array.getElem?_eq_some_iff.1 h2).1, fun o => by simp [World.frozen?, h2], fun j hj => ?_, ?_, ?_⟩
    · obtain ⟨a, b⟩ := pcl_at (tg := tg) (le := le) hj
      exact ⟨hc _ _ (by rw [List.getElem?_append_left (by omega)]; exact a), hc _ _ (by rw [List.getElem?_append_left (by omega)]; exact b)⟩
    · exact hc _ _ (by rw [List.getElem?_append_right (by omega), hl]; simp)
    · exact hc _ _ (by rw [List.getElem?_append_right (by omega), hl]; simp)
theorem run_append_g (w : World) (ty : TypeId) (K : Nat → Prop) (p : Option Addr) (n c : Nat) (tg le : Nat → Int) (hn : n < 1000) (hG : GP w K p n c tg le) (ad : Addr) (h0 : w.cell? (ad.add 0) = some (.int .i64 (-7))) (h1 : w.cell? (ad.add 1) = some (.int .i64 (-7))) :
    ∃ h cap w', (Builtin.append_ #[60, 60] ty #[.slice p n c, .slice (some ad) 1 1]).run Tryd.prog w = .ok (.slice (some ⟨h, 0, none⟩) (n + 1) cap) w' ∧ Fr w w' K ∧ (w.heap.size ≤ h ∨ K h) ∧ GR w' h n tg le := by
  obtain ⟨i1, hj, hy0, hy1, hy2⟩ := info_parts info102
  have hnews : ∀ j u, [Value.int .i64 (-7), .int .i64 (-7)][j]? = some u → w.cell? (ad.add j) = some u := by
    intro j u hu
    match j, hu with
    | 0, hu => simp at hu; rw [← hu]; exact h0
    | 1, hu => simp at hu; rw [← hu]; exact h1
    | j + 2, hu => simp at hu
  rcases hG with ⟨g, o, rfl, rfl, hc⟩ | ⟨hown, hK⟩
  · have holds : ∀ j u, (pcl c tg le)[j]? = some u → w.cell? ((⟨g, o, none⟩ : Addr).add j) = some u := by
      intro j u hu
      rw [add_lit]
      obtain ⟨i, hi, ⟨rfl, rfl⟩ | ⟨rfl, rfl⟩⟩ := pcl_get hu
      · exact (hc i hi).1
      · rw [← Nat.add_assoc]; exact (hc i hi).2
    have hr := run_append_grow (P := Tryd.prog) w 60 ty 102 i1 (.agg #[.int .i64 0, .int .i64 0]) Tryd.underlying60 hj hy0 ⟨g, o, none⟩ c c (pcl c tg le) (by rw [hy1]; exact pcl_length _ _ _) holds ad 1 1 [.int .i64 (-7), .int .i64 (-7)] (by rw [hy1]; rfl) hnews (by omega) (by omega) (by rw [hy2]; exact growslice_fits (by omega) (by omega))
    refine ⟨_, _, _, hr, ((Fr.refl w K).drew.alloc _), .inl (Nat.le_refl _), ?_⟩
    have hge := grownCap_ge w (c + 1) c 102
    have hlen := pcl_length c tg le
    have hh : (w.drew.alloc (.cells ((pcl c tg le).toArray ++ [Value.int .i64 (-7), .int .i64 (-7)].toArray ++ Builtin.zeroCells (Value.agg #[.int .i64 0, .int .i64 0]).cells (grownCap w (c + 1) c 102 - (c + 1))) 102)).heap[w.heap.size]? = some (.cells ((pcl c tg le).toArray ++ [Value.int .i64 (-7), .int .i64 (-7)].toArray ++ Builtin.zeroCells (Value.agg #[.int .i64 0, .int .i64 0]).cells (grownCap w (c + 1) c 102 - (c + 1))) 102) := heap_alloc_new w.drew _
    have hcell : ∀ j u, (pcl c tg le ++ [Value.int .i64 (-7), .int .i64 (-7)])[j]? = some u → (w.drew.alloc (.cells ((pcl c tg le).toArray ++ [Value.int .i64 (-7), .int .i64 (-7)].toArray ++ Builtin.zeroCells (Value.agg #[.int .i64 0, .int .i64 0]).cells (grownCap w (c + 1) c 102 - (c + 1))) 102)).cell? ⟨w.heap.size, j, none⟩ = some u := by
      intro j u hu
      rw [heap_cell hh]
      have hj := (List.getElem?_eq_some_iff.1 hu).1
      rw [Array.getElem?_append_left (by simpa using hj)]
      simpa using hu
    refine ⟨(Array.getElem?_eq_some_iff.1 hh).1, fun o => by unfold World.frozen?; rw [hh]; simp, fun j hj => ?_, ?_, ?_⟩
    · obtain ⟨a, b⟩ := pcl_at (tg := tg) (le := le) hj
      exact ⟨hcell _ _ (by rw [List.getElem?_append_left (by omega)]; exact a), hcell _ _ (by rw [List.getElem?_append_left (by omega)]; exact b)⟩
    · exact hcell _ _ (by rw [List.getElem?_append_right (by omega), hlen]; simp)
    · exact hcell _ _ (by rw [List.getElem?_append_right (by omega), hlen]; simp)
  · obtain ⟨v', w', hr, h2, h3⟩ := run_append2 (P := Tryd.prog) w 0 60 ty 102 i1 (.agg #[.int .i64 0, .int .i64 0]) 2 16 Tryd.underlying60 hj hy0 hy1 hy2 rfl (by decide) (.slice p n c) n (pcl n tg le) hown ad 1 1 [.int .i64 (-7), .int .i64 (-7)] rfl hnews (by simp [Value.oneCell']) (by unfold maxLen; omega) (by omega) (Nat.zero_le _)
    obtain ⟨g, cap, rfl, hg, hGR⟩ := gr_of_row h2
    refine ⟨g, cap, w', hr, ?_, ?_, hGR⟩
    · rcases h3 with ⟨_, q⟩ | ⟨_, q⟩
      · exact ⟨q.os, q.tape, q.output, q.size, fun k hk hn => q.block k hk fun e => hn (hK k e.symm)⟩
      · exact ⟨q.os, q.tape, q.output, q.size, fun k hk hn => q.block k hk (by simp)⟩
    · rcases h3 with ⟨q, _⟩ | ⟨q, _⟩
      · exact .inr (hK g (by rw [← q]; exact hg))
      · rw [hg] at q
        injection q with q
        exact .inl (by omega)
theorem wpList_append_g {w : World} {ops : Array Oper} {rest : List Oper} {o : Oper} {a : Act} {Q : Exit → Act → World → Prop} (hgd : o.guard = none) (s x : Operand)
    (ho : o.op = .call { callee := .builtin .append, args := #[s, x], argTypes := #[60, 60] })
    (K : Nat → Prop) (p : Option Addr) (n c : Nat) (tg le : Nat → Int) (hs : a.eval s = .slice p n c) (hn : n < 1000) (hG : GP w K p n c tg le)
    (ad : Addr) (hx : a.eval x = .slice (some ad) 1 1) (h0 : w.cell? (ad.add 0) = some (.int .i64 (-7))) (h1 : w.cell? (ad.add 1) = some (.int .i64 (-7)))
    (h : ∀ h cap w', Fr w w' K → (w.heap.size ≤ h ∨ K h) → GR w' h n tg le → wpList Tryd.prog ops Q rest (a.put o.dst (.slice (some ⟨h, 0, none⟩) (n + 1) cap)) w') :
    wpList Tryd.prog ops Q (o :: rest) a w := by
  refine wpList_plain hgd fun K' hK => ?_
  obtain ⟨g, cap, w', hr, h2, h3, h4⟩ := run_append_g w o.type K p n c tg le hn hG ad h0 h1
  unfold Oper.wp
  simp [execOp, ho, resolve, invoke, builtin, hs, hx, hr, Result.andThen]
  exact hK _ _ (h g cap w' h2 h3 h4)
end Go.Proofs.YtogdekjklbbbiaaDoor
