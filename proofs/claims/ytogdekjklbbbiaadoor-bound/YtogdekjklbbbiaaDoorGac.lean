import Derived.Test.YtogdekjklbbbiaaDoorPush
import Derived.Test.YtogdekjklbbbiaaDoorCh
import Derived.Deep.LoopGhost
import Derived.Deep.RegionHeld3
import Derived.Test.YtogdekjklbbbiaaDoorFf
import Derived.Test.YtogdekjklbbbiaaDoorMap
set_option maxRecDepth 100000
namespace Go.Proofs.YtogdekjklbbbiaaDoor
open Go.ChangeShapes Go.WideShapes Go.ChangeAt Go.RowKit
set_option linter.unusedSimpArgs false
set_option linter.unusedVariables false

/-- Batches in memory, by their numbers. -/
structure BV where
  n : Nat
  fl : Nat → Int
  st : Nat → Int
  ln : Nat → Nat
  tg : Nat → Nat → Int
  le : Nat → Nat → Int
/-- A slice's cells, as the batches. -/
structure BS (w : World) (B : BV) (a : Option Addr) (p : Nat → Option Addr) (c : Nat → Nat) : Prop where
  row : ∀ i, i < B.n → ∃ g o, a = some ⟨g, o, none⟩ ∧ w.cell? ⟨g, o + i * 3, none⟩ = some (.int .i64 (B.fl i)) ∧ w.cell? ⟨g, o + i * 3 + 1, none⟩ = some (.int .i64 (B.st i)) ∧ w.cell? ⟨g, o + i * 3 + 2, none⟩ = some (.slice (p i) (B.ln i) (c i))
  pk : ∀ i j, i < B.n → j < B.ln i → ∃ g o, p i = some ⟨g, o, none⟩ ∧ w.cell? ⟨g, o + j * 2, none⟩ = some (.int .i64 (B.tg i j)) ∧ w.cell? ⟨g, o + j * 2 + 1, none⟩ = some (.int .i64 (B.le i j))
set_option maxHeartbeats 2000000 in
/-- alike, of the same batches. -/
theorem alike_walk (B : BV) (aa ab : Option Addr) (ca cb : Nat) (pa pb : Nat → Option Addr) (xa xb : Nat → Nat) (w : World) (hn : B.n < 1000) (hl : ∀ i, i < B.n → B.ln i < 1000) (hA : BS w B aa pa xa) (hB : BS w B ab pb xb) :
    Calls Tryd.prog 60 #[.slice aa B.n ca, .slice ab B.n cb] w fun e w' => e = .returned (.bool true) ∧ Ch w w' (fun _ _ => False) := by
  have HA := hide hA; have HB := hide hB; have HL := hide hl
  clear hA hB hl
  have e1 : ((B.n : Int) != (B.n : Int)) = false := by simp
  go_enter Tryd.func60, Tryd.ntmps60
  go_wp2_with fail
  go_loopg [5] B.n (fun gk i wr => ∃ k : Nat, i = .int .i64 (k : Int) ∧ gk = B.n - k ∧ k ≤ B.n ∧ Ch w wr (fun _ _ => False))
  case atStart => exact ⟨0, rfl, rfl, Nat.zero_le _, Ch.refl _ _⟩
  case round =>
    obtain ⟨k, hu, hgk, hkn, hc⟩ := hrel
    rw [hu]
    clear hu
    have HC := hide hc; have HG := hide hgk
    by_cases hk : k < B.n
    · obtain ⟨ga, oa, ha, a0, a1, a2⟩ := (unhide HA).row k hk
      obtain ⟨gb, ob, hb, b0, b1, b2⟩ := (unhide HB).row k hk
      rw [← hc.cell ga _ (fun q => q)] at a0 a1 a2
      rw [← hc.cell gb _ (fun q => q)] at b0 b1 b2
      subst ha hb
      have hki : (k : Int) < (B.n : Int) := by omega
      have hk0 : (0 : Int) ≤ (k : Int) := by omega
      have hx0 : (B.fl k != B.fl k) = false := by simp
      have hx1 : (B.st k != B.st k) = false := by simp
      have hx2 : ((B.ln k : Int) != (B.ln k : Int)) = false := by simp
      have hlk := unhide HL k hk
      clear hgk hc
      go_wp2_with fail
      go_quiet (fail)
      go_wp2_with fail
      go_loopg [6] (B.ln k) (fun gk i wr => ∃ j : Nat, i = .int .i64 (j : Int) ∧ gk = B.ln k - j ∧ j ≤ B.ln k ∧ Ch w wr (fun _ _ => False))
      case atStart => exact ⟨0, rfl, rfl, Nat.zero_le _, (unhide HC).drewN _⟩
      case round =>
        obtain ⟨j, hu, hgj, hjn, hc⟩ := hrel
        rw [hu]
        clear hu
        have HC2 := hide hc; have HGJ := hide hgj
        obtain ⟨ga', oa', ha', a0', a1', a2'⟩ := (unhide HA).row k hk
        obtain ⟨gb', ob', hb', b0', b1', b2'⟩ := (unhide HB).row k hk
        rw [← hc.cell ga' _ (fun q => q)] at a2'
        rw [← hc.cell gb' _ (fun q => q)] at b2'
        injection ha' with ha'
        injection ha' with ea eo _
        subst ea eo
        injection hb' with hb'
        injection hb' with ea eo _
        subst ea eo
        clear a0 a1 a2 b0 b1 b2 a0' a1' b0' b1'
        by_cases hj : j < B.ln k
        · obtain ⟨g1, o1, hp1, c0, c1⟩ := (unhide HA).pk k j hk hj
          obtain ⟨g2, o2, hp2, d0, d1⟩ := (unhide HB).pk k j hk hj
          rw [← hc.cell g1 _ (fun q => q)] at c0 c1
          rw [← hc.cell g2 _ (fun q => q)] at d0 d1
          rw [hp1] at a2'
          rw [hp2] at b2'
          have hji : (j : Int) < (B.ln k : Int) := by omega
          have hj0 : (0 : Int) ≤ (j : Int) := by omega
          have hy0 : (B.tg k j != B.tg k j) = false := by simp
          have hy1 : (B.le k j != B.le k j) = false := by simp
          clear hgj hc hp1 hp2
          go_wp2_with fail
          go_quiet (fail)
          go_wp2_with fail
          go_roundg (B.ln k - (j + 1))
          case measure => rw [unhide HGJ]; omega
          case rel => exact ⟨j + 1, by go_num, rfl, by omega, (unhide HC2).drewN _⟩
        · have hji : ¬ (j : Int) < (B.ln k : Int) := by omega
          clear hgj hc
          go_wp2_with fail
          go_roundg (B.n - (k + 1))
          case measure => rw [unhide HG]; omega
          case rel => exact ⟨k + 1, by go_num, rfl, by omega, unhide HC2⟩
    · have hki : ¬ (k : Int) < (B.n : Int) := by omega
      clear hc hgk
      go_wp2_with fail
      go_ret
      exact ⟨rfl, unhide HC⟩
end Go.Proofs.YtogdekjklbbbiaaDoor

namespace Go.Proofs.YtogdekjklbbbiaaDoor
open Go.ChangeShapes Go.WideShapes Go.ChangeAt Go.RowKit
set_option linter.unusedSimpArgs false
set_option linter.unusedVariables false

/-- Packets as cells. -/
def pcl (n : Nat) (tg le : Nat → Int) : List Value := (List.range n).flatMap fun j => [.int .i64 (tg j), .int .i64 (le j)]
theorem pcl_succ (n : Nat) (tg le : Nat → Int) : pcl (n + 1) tg le = pcl n tg le ++ [.int .i64 (tg n), .int .i64 (le n)] := by simp [pcl, List.range_succ]
theorem pcl_length (n : Nat) (tg le : Nat → Int) : (pcl n tg le).length = n * 2 := by
  induction n with
  | zero => rfl
  | succ n ih => rw [pcl_succ, List.length_append, ih]; simp; omega
theorem pcl_get {n : Nat} {tg le : Nat → Int} {j : Nat} {u : Value} (h : (pcl n tg le)[j]? = some u) : ∃ i, i < n ∧ ((j = i * 2 ∧ u = .int .i64 (tg i)) ∨ (j = i * 2 + 1 ∧ u = .int .i64 (le i))) := by
  induction n with
  | zero => simp [pcl] at h
  | succ n ih =>
    rw [pcl_succ] at h
    have hl := pcl_length n tg le
    rcases Nat.lt_or_ge j (n * 2) with q | q
    · rw [List.getElem?_append_left (by omega)] at h
      obtain ⟨i, hi, h'⟩ := ih h
      exact ⟨i, by omega, h'⟩
    · rw [List.getElem?_append_right (by omega), hl] at h
      refine ⟨n, by omega, ?_⟩
      have hj : j - n * 2 < 2 := by
        have := (List.getElem?_eq_some_iff.1 h).1
        simpa using this
      rcases Nat.lt_or_ge (j - n * 2) 1 with q2 | q2
      · have e : j - n * 2 = 0 := by omega
        rw [e] at h
        simp at h
        exact .inl ⟨by omega, h.symm⟩
      · have e : j - n * 2 = 1 := by omega
        rw [e] at h
        simp at h
        exact .inr ⟨by omega, h.symm⟩
theorem pcl_at {n : Nat} {tg le : Nat → Int} {i : Nat} (h : i < n) : (pcl n tg le)[i * 2]? = some (.int .i64 (tg i)) ∧ (pcl n tg le)[i * 2 + 1]? = some (.int .i64 (le i)) := by
  induction n with
  | zero => omega
  | succ n ih =>
    rw [pcl_succ]
    have hl := pcl_length n tg le
    by_cases e : i < n
    · rw [List.getElem?_append_left (by omega), List.getElem?_append_left (by omega)]
      exact ih e
    · have : i = n := by omega
      subst this
      rw [List.getElem?_append_right (by omega), List.getElem?_append_right (by omega), hl]
      simp
theorem pcl_one (n : Nat) (tg le : Nat → Int) : ∀ u ∈ pcl n tg le, u.oneCell' = true := by
  intro u hu
  simp only [pcl, List.mem_flatMap] at hu
  obtain ⟨p, _, hp⟩ := hu
  simp at hp
  rcases hp with rfl | rfl <;> rfl

/-- A slice of packets that may be grown: full, or one's own. -/
def GP (w : World) (K : Nat → Prop) (p : Option Addr) (n c : Nat) (tg le : Nat → Int) : Prop :=
  (∃ g o, p = some ⟨g, o, none⟩ ∧ c = n ∧ ∀ j, j < n → w.cell? ⟨g, o + j * 2, none⟩ = some (.int .i64 (tg j)) ∧ w.cell? ⟨g, o + j * 2 + 1, none⟩ = some (.int .i64 (le j))) ∨
  (w.ownsRow 0 102 2 (.slice p n c) n (pcl n tg le) ∧ ∀ k, (Value.slice p n c).ownBlock = some k → K k)
/-- A grown slice of packets. -/
structure GR (w : World) (h n : Nat) (tg le : Nat → Int) : Prop where
  lt : h < w.heap.size
  fz : ∀ o, w.frozen? ⟨h, o, none⟩ = false
  old : ∀ j, j < n → w.cell? ⟨h, j * 2, none⟩ = some (.int .i64 (tg j)) ∧ w.cell? ⟨h, j * 2 + 1, none⟩ = some (.int .i64 (le j))
  new : w.cell? ⟨h, n * 2, none⟩ = some (.int .i64 (-7)) ∧ w.cell? ⟨h, n * 2 + 1, none⟩ = some (.int .i64 (-7))
theorem GR.kept {w w' : World} {h n : Nat} {tg le : Nat → Int} (q : GR w h n tg le) (hk : w'.heap[h]? = w.heap[h]?) : GR w' h n tg le := by
  have hc : ∀ o, w'.cell? ⟨h, o, none⟩ = w.cell? ⟨h, o, none⟩ := fun o => World.cell?_of_block (w := w) (a := ⟨h, o, none⟩) hk
  refine ⟨?_, fun o => (frozen_of hk o).trans (q.fz o), fun j hj => by rw [hc, hc]; exact q.old j hj, by rw [hc, hc]; exact q.new⟩
  have := q.lt
  rw [Array.getElem?_eq_getElem this] at hk
  exact (Array.getElem?_eq_some_iff.1 hk).1
theorem gr_of_row {w : World} {v : Value} {n : Nat} {tg le : Nat → Int} (h : w.ownsRow 0 102 2 v (n + 1) (pcl n tg le ++ [.int .i64 (-7), .int .i64 (-7)])) : ∃ g cap, v = .slice (some ⟨g, 0, none⟩) (n + 1) cap ∧ v.ownBlock = some g ∧ GR w g n tg le := by
  have hl := pcl_length n tg le
  rcases h.2 with ⟨_, hn⟩ | ⟨g, cap, cur, rfl, h1, h2, h3, h4, h5, h6⟩
  · omega
  · have hc : ∀ j u, (pcl n tg le ++ [Value.int .i64 (-7), .int .i64 (-7)])[j]? = some u → w.cell? ⟨g, j, none⟩ = some u := fun j u hu => by
      have := h.cells (g := g) rfl j u hu
      rw [add_lit, Nat.zero_add] at this
      exact this
    refine ⟨g, cap, rfl, rfl, (Array.getElem?_eq_some_iff.1 h2).1, fun o => by simp [World.frozen?, h2], fun j hj => ?_, ?_, ?_⟩
    · obtain ⟨a, b⟩ := pcl_at (tg := tg) (le := le) hj
      exact ⟨hc _ _ (by rw [List.getElem?_append_left (by omega)]; exact a), hc _ _ (by rw [List.getElem?_append_left (by omega)]; exact b)⟩
    · exact hc _ _ (by rw [List.getElem?_append_right (by omega), hl]; simp)
    · exact hc _ _ (by rw [List.getElem?_append_right (by omega), hl]; simp)
theorem run_append_g (w : World) (ty : TypeId) (K : Nat → Prop) (p : Option Addr) (n c : Nat) (tg le : Nat → Int) (hn : n < 1000) (hG : GP w K p n c tg le) (ad : Addr) (h0 : w.cell? (ad.add 0) = some (.int .i64 (-7))) (h1 : w.cell? (ad.add 1) = some (.int .i64 (-7))) :
    ∃ h cap w', (Builtin.append_ #[60, 60] ty #[.slice p n c, .slice (some ad) 1 1]).run Tryd.prog w = .ok (.slice (some ⟨h, 0, none⟩) (n + 1) cap) w' ∧ Fr w w' K ∧ (w.heap.size ≤ h ∨ K h) ∧ GR w' h n tg le := by
  obtain ⟨i1, hj, hy0, hy1, hy2⟩ := info_parts info102
  have hnews : ∀ j u, [Value.int .i64 (-7), .int .i64 (-7)][j]? = some u → w.cell? (ad.add j) = some u := by
    intro j u hu
    match j, hu with
    | 0, hu => simp at hu; rw [← hu]; exact h0
    | 1, hu => simp at hu; rw [← hu]; exact h1
    | j + 2, hu => simp at hu
  rcases hG with ⟨g, o, rfl, rfl, hc⟩ | ⟨hown, hK⟩
  · have holds : ∀ j u, (pcl c tg le)[j]? = some u → w.cell? ((⟨g, o, none⟩ : Addr).add j) = some u := by
      intro j u hu
      rw [add_lit]
      obtain ⟨i, hi, ⟨rfl, rfl⟩ | ⟨rfl, rfl⟩⟩ := pcl_get hu
      · exact (hc i hi).1
      · rw [← Nat.add_assoc]; exact (hc i hi).2
    have hr := run_append_grow (P := Tryd.prog) w 60 ty 102 i1 (.agg #[.int .i64 0, .int .i64 0]) Tryd.underlying60 hj hy0 ⟨g, o, none⟩ c c (pcl c tg le) (by rw [hy1]; exact pcl_length _ _ _) holds ad 1 1 [.int .i64 (-7), .int .i64 (-7)] (by rw [hy1]; rfl) hnews (by omega) (by omega) (by rw [hy2]; exact growslice_fits (by omega) (by omega))
    refine ⟨_, _, _, hr, ((Fr.refl w K).drew.alloc _), .inl (Nat.le_refl _), ?_⟩
    have hge := grownCap_ge w (c + 1) c 102
    have hlen := pcl_length c tg le
    have hh : (w.drew.alloc (.cells ((pcl c tg le).toArray ++ [Value.int .i64 (-7), .int .i64 (-7)].toArray ++ Builtin.zeroCells (Value.agg #[.int .i64 0, .int .i64 0]).cells (grownCap w (c + 1) c 102 - (c + 1))) 102)).heap[w.heap.size]? = some (.cells ((pcl c tg le).toArray ++ [Value.int .i64 (-7), .int .i64 (-7)].toArray ++ Builtin.zeroCells (Value.agg #[.int .i64 0, .int .i64 0]).cells (grownCap w (c + 1) c 102 - (c + 1))) 102) := heap_alloc_new w.drew _
    have hcell : ∀ j u, (pcl c tg le ++ [Value.int .i64 (-7), .int .i64 (-7)])[j]? = some u → (w.drew.alloc (.cells ((pcl c tg le).toArray ++ [Value.int .i64 (-7), .int .i64 (-7)].toArray ++ Builtin.zeroCells (Value.agg #[.int .i64 0, .int .i64 0]).cells (grownCap w (c + 1) c 102 - (c + 1))) 102)).cell? ⟨w.heap.size, j, none⟩ = some u := by
      intro j u hu
      rw [heap_cell hh]
      have hj := (List.getElem?_eq_some_iff.1 hu).1
      rw [Array.getElem?_append_left (by simpa using hj)]
      simpa using hu
    refine ⟨(Array.getElem?_eq_some_iff.1 hh).1, fun o => by unfold World.frozen?; rw [hh]; simp, fun j hj => ?_, ?_, ?_⟩
    · obtain ⟨a, b⟩ := pcl_at (tg := tg) (le := le) hj
      exact ⟨hcell _ _ (by rw [List.getElem?_append_left (by omega)]; exact a), hcell _ _ (by rw [List.getElem?_append_left (by omega)]; exact b)⟩
    · exact hcell _ _ (by rw [List.getElem?_append_right (by omega), hlen]; simp)
    · exact hcell _ _ (by rw [List.getElem?_append_right (by omega), hlen]; simp)
  · obtain ⟨v', w', hr, h2, h3⟩ := run_append2 (P := Tryd.prog) w 0 60 ty 102 i1 (.agg #[.int .i64 0, .int .i64 0]) 2 16 Tryd.underlying60 hj hy0 hy1 hy2 rfl (by decide) (.slice p n c) n (pcl n tg le) hown ad 1 1 [.int .i64 (-7), .int .i64 (-7)] rfl hnews (by simp [Value.oneCell']) (by unfold maxLen; omega) (by omega) (Nat.zero_le _)
    obtain ⟨g, cap, rfl, hg, hGR⟩ := gr_of_row h2
    refine ⟨g, cap, w', hr, ?_, ?_, hGR⟩
    · rcases h3 with ⟨_, q⟩ | ⟨_, q⟩
      · exact ⟨q.os, q.tape, q.output, q.size, fun k hk hn => q.block k hk fun e => hn (hK k e.symm)⟩
      · exact ⟨q.os, q.tape, q.output, q.size, fun k hk hn => q.block k hk (by simp)⟩
    · rcases h3 with ⟨q, _⟩ | ⟨q, _⟩
      · exact .inr (hK g (by rw [← q]; exact hg))
      · rw [hg] at q
        injection q with q
        exact .inl (by omega)
theorem wpList_append_g {w : World} {ops : Array Oper} {rest : List Oper} {o : Oper} {a : Act} {Q : Exit → Act → World → Prop} (hgd : o.guard = none) (s x : Operand)
    (ho : o.op = .call { callee := .builtin .append, args := #[s, x], argTypes := #[60, 60] })
    (K : Nat → Prop) (p : Option Addr) (n c : Nat) (tg le : Nat → Int) (hs : a.eval s = .slice p n c) (hn : n < 1000) (hG : GP w K p n c tg le)
    (ad : Addr) (hx : a.eval x = .slice (some ad) 1 1) (h0 : w.cell? (ad.add 0) = some (.int .i64 (-7))) (h1 : w.cell? (ad.add 1) = some (.int .i64 (-7)))
    (h : ∀ h cap w', Fr w w' K → (w.heap.size ≤ h ∨ K h) → GR w' h n tg le → wpList Tryd.prog ops Q rest (a.put o.dst (.slice (some ⟨h, 0, none⟩) (n + 1) cap)) w') :
    wpList Tryd.prog ops Q (o :: rest) a w := by
  refine wpList_plain hgd fun K' hK => ?_
  obtain ⟨g, cap, w', hr, h2, h3, h4⟩ := run_append_g w o.type K p n c tg le hn hG ad h0 h1
  unfold Oper.wp
  simp [execOp, ho, resolve, invoke, builtin, hs, hx, hr, Result.andThen]
  exact hK _ _ (h g cap w' h2 h3 h4)
end Go.Proofs.YtogdekjklbbbiaaDoor

namespace Go.Proofs.YtogdekjklbbbiaaDoor
open Go.ChangeShapes Go.WideShapes Go.ChangeAt Go.RowKit
set_option linter.unusedSimpArgs false
set_option linter.unusedVariables false

theorem GP.kept {w w' : World} {K : Nat → Prop} {p : Option Addr} {n c : Nat} {tg le : Nat → Int} (h : GP w K p n c tg le) (hk : ∀ g o, p = some ⟨g, o, none⟩ → w'.heap[g]? = w.heap[g]?) : GP w' K p n c tg le := by
  rcases h with ⟨g, o, rfl, rfl, hc⟩ | ⟨hown, hK⟩
  · refine .inl ⟨g, o, rfl, rfl, fun j hj => ?_⟩
    have := hk g o rfl
    rw [World.cell?_of_block (w := w) (a := ⟨g, o + j * 2, none⟩) this, World.cell?_of_block (w := w) (a := ⟨g, o + j * 2 + 1, none⟩) this]
    exact hc j hj
  · refine .inr ⟨row_kept0 hown fun g hg => ?_, hK⟩
    rcases hown.2 with ⟨q, _⟩ | ⟨g', cap, cur, q, _⟩
    · rw [q] at hg; cases hg
    · injection q with q1 q2 q3
      have hg' : g' = g := by
        rw [q1] at hg
        simpa [Value.ownBlock] using hg
      subst hg'
      exact hk g' 0 q1
/-- The batches of an answer while they are grown. -/
structure GI (w wr : World) (B : BV) (gl ol : Nat) (K : Nat → Prop) (p : Nat → Option Addr) (c : Nat → Nat) (k : Nat) (H C : Nat → Nat) : Prop where
  fr : Fr w wr (fun x => x = gl ∨ (K x ∧ 0 < k))
  fz : ∀ o, wr.frozen? ⟨gl, o, none⟩ = false
  old : ∀ j, j < B.n → k ≤ j → wr.cell? ⟨gl, ol + j * 3 + 2, none⟩ = some (.slice (p j) (B.ln j) (c j))
  new : ∀ j, j < k → wr.cell? ⟨gl, ol + j * 3 + 2, none⟩ = some (.slice (some ⟨H j, 0, none⟩) (B.ln j + 1) (C j))
  gr : ∀ j, j < k → (w.heap.size ≤ H j ∨ K (H j)) ∧ GR wr (H j) (B.ln j) (B.tg j) (B.le j)
  dj : ∀ i j, i < k → j < k → i ≠ j → H i ≠ H j
theorem GI.drewN {w wr : World} {B : BV} {gl ol : Nat} {K : Nat → Prop} {p : Nat → Option Addr} {c : Nat → Nat} {k : Nat} {H C : Nat → Nat} (h : GI w wr B gl ol K p c k H C) (n : Nat) : GI w (wr.drewN n) B gl ol K p c k H C :=
  ⟨h.fr.drewN n, h.fz, h.old, h.new, fun j hj => ⟨(h.gr j hj).1, (h.gr j hj).2.kept rfl⟩, h.dj⟩
theorem GI.step {w wr w2 : World} {B : BV} {gl ol : Nat} {K : Nat → Prop} {p : Nat → Option Addr} {c : Nat → Nat} {k : Nat} {H C : Nat → Nat} (h : GI w wr B gl ol K p c k H C) (hk : k < B.n) (hK1 : ∀ x, K x → B.n = 1) (hKl : ¬ K gl) (hgl : gl < w.heap.size) (ob : Obj) (hf : Fr (wr.alloc ob) w2 K) {x cap : Nat} (hx : (wr.alloc ob).heap.size ≤ x ∨ K x) (hg : GR w2 x (B.ln k) (B.tg k) (B.le k)) :
    w2.cell? ⟨gl, ol + k * 3 + 2, none⟩ = some (.slice (p k) (B.ln k) (c k)) ∧ w2.frozen? ⟨gl, ol + k * 3 + 2, none⟩ = false ∧ GI w (w2.setCell ⟨gl, ol + k * 3 + 2, none⟩ (.slice (some ⟨x, 0, none⟩) (B.ln k + 1) cap)) B gl ol K p c (k + 1) (fun j => if j = k then x else H j) (fun j => if j = k then cap else C j) := by
  have hsz : wr.heap.size < (wr.alloc ob).heap.size := by simp
  have hglr : gl < wr.heap.size := Nat.lt_of_lt_of_le hgl h.fr.size
  have hglk : w2.heap[gl]? = wr.heap[gl]? := (hf.blk gl (by omega) hKl).trans (Below.heap_alloc _ _ _ hglr)
  have hc2 : ∀ o, w2.cell? ⟨gl, o, none⟩ = wr.cell? ⟨gl, o, none⟩ := fun o => World.cell?_of_block (w := wr) (a := ⟨gl, o, none⟩) hglk
  have hxg : x ≠ gl := fun e => by
    rcases hx with q | q
    · omega
    · rw [e] at q; exact hKl q
  have hch : Ch w2 (w2.setCell ⟨gl, ol + k * 3 + 2, none⟩ (.slice (some ⟨x, 0, none⟩) (B.ln k + 1) cap)) (fun a o => a = gl ∧ o = ol + k * 3 + 2) := (Ch.refl w2 _).setCell ⟨rfl, rfl⟩ _
  have hblk : ∀ g, g ≠ gl → (w2.setCell ⟨gl, ol + k * 3 + 2, none⟩ (.slice (some ⟨x, 0, none⟩) (B.ln k + 1) cap)).heap[g]? = w2.heap[g]? := fun g hg => hch.blk g fun o q => hg q.1
  have hfr2 : Fr w w2 (fun x => x = gl ∨ (K x ∧ 0 < k + 1)) := by
    refine ⟨?_, ?_, ?_, ?_, fun g hgs hn => ?_⟩
    · exact hf.os.trans h.fr.os
    · exact hf.tape.trans h.fr.tape
    · exact hf.output.trans h.fr.output
    · have := hf.size; have := h.fr.size; omega
    · have h1 : ¬ K g := fun q => hn (.inr ⟨q, by omega⟩)
      have hgr : g < wr.heap.size := Nat.lt_of_lt_of_le hgs h.fr.size
      rw [hf.blk g (by omega) h1, Below.heap_alloc _ _ _ hgr, h.fr.blk g hgs fun q => ?_]
      rcases q with q | q
      · exact hn (.inl q)
      · exact h1 q.1
  have hcell := h.old k hk (Nat.le_refl _)
  refine ⟨by rw [hc2]; exact hcell, (frozen_of hglk _).trans (h.fz _), ?_, ?_, ?_, ?_, ?_, ?_⟩
  · refine ⟨hch.os.trans hfr2.os, hch.tape.trans hfr2.tape, hch.output.trans hfr2.output, ?_, fun g hgs hn => ?_⟩
    · rw [hch.size]; exact hfr2.size
    · rw [hblk g fun e => hn (.inl e)]
      exact hfr2.blk g hgs hn
  · intro o
    rw [hch.fz]
    exact (frozen_of hglk o).trans (h.fz o)
  · intro j hj hkj
    rw [hch.cell gl _ (fun q => by omega), hc2]
    exact h.old j hj (by omega)
  · intro j hj
    by_cases e : j = k
    · subst e
      simp only [if_true]
      exact World.cell?_setCell_same' _ _ _ (by rw [hc2, hcell]; rfl)
    · simp only [if_neg e]
      rw [hch.cell gl _ (fun q => by omega), hc2]
      exact h.new j (by omega)
  · intro j hj
    by_cases e : j = k
    · subst e
      simp only [if_true]
      refine ⟨?_, hg.kept (hblk x hxg)⟩
      have := h.fr.size
      rcases hx with q | q
      · exact .inl (by omega)
      · exact .inr q
    · simp only [if_neg e]
      obtain ⟨h1, h2⟩ := h.gr j (by omega)
      have hn1 : B.n ≠ 1 := by omega
      have hHg : H j ≠ gl := fun e => by
        rcases h1 with q | q
        · omega
        · rw [e] at q; exact hKl q
      refine ⟨h1, h2.kept ?_⟩
      rw [hblk _ hHg, hf.blk _ (by have := h2.lt; omega) (fun q => hn1 (hK1 _ q)), Below.heap_alloc _ _ _ h2.lt]
  · intro i j hi hj hij
    have key : ∀ j, j < k → H j ≠ x := fun j hj e => by
      obtain ⟨h1, h2⟩ := h.gr j hj
      have := h2.lt
      rcases hx with q | q
      · omega
      · have := hK1 x q; omega
    by_cases e1 : i = k
    · by_cases e2 : j = k
      · omega
      · simp only [if_pos e1, if_neg e2]
        exact fun e => key j (by omega) e.symm
    · by_cases e2 : j = k
      · simp only [if_neg e1, if_pos e2]
        exact key i (by omega)
      · simp only [if_neg e1, if_neg e2]
        exact h.dj i j (by omega) (by omega) hij
/-- The batches of an answer while they are spoilt. -/
structure GS (w wr : World) (B : BV) (gl ol : Nat) (K : Nat → Prop) (H C : Nat → Nat) : Prop where
  fr : Fr w wr (fun x => x = gl ∨ K x)
  new : ∀ j, j < B.n → wr.cell? ⟨gl, ol + j * 3 + 2, none⟩ = some (.slice (some ⟨H j, 0, none⟩) (B.ln j + 1) (C j))
  gr : ∀ j, j < B.n → (w.heap.size ≤ H j ∨ K (H j)) ∧ H j ≠ gl ∧ (∀ o, wr.frozen? ⟨H j, o, none⟩ = false) ∧ ∀ i, i < B.ln j + 1 → ∃ v, wr.cell? ⟨H j, i * 2, none⟩ = some v
theorem GI.spoil {w wr : World} {B : BV} {gl ol : Nat} {K : Nat → Prop} {p : Nat → Option Addr} {c : Nat → Nat} {H C : Nat → Nat} (h : GI w wr B gl ol K p c B.n H C) (hKl : ¬ K gl) (hgl : gl < w.heap.size) : GS w wr B gl ol K H C := by
  refine ⟨⟨h.fr.os, h.fr.tape, h.fr.output, h.fr.size, fun k hk hn => h.fr.blk k hk fun q => hn ?_⟩, h.new, fun j hj => ?_⟩
  · rcases q with q | q
    · exact .inl q
    · exact .inr q.1
  · obtain ⟨h1, h2⟩ := h.gr j hj
    refine ⟨h1, fun e => ?_, h2.fz, fun i hi => ?_⟩
    · rcases h1 with q | q
      · omega
      · rw [e] at q; exact hKl q
    · by_cases e : i < B.ln j
      · exact ⟨_, (h2.old i e).1⟩
      · have : i = B.ln j := by omega
        subst this
        exact ⟨_, h2.new.1⟩
theorem GS.set {w wr : World} {B : BV} {gl ol : Nat} {K : Nat → Prop} {H C : Nat → Nat} (h : GS w wr B gl ol K H C) {j : Nat} (hj : j < B.n) (o : Nat) (v : Value) : GS w (wr.setCell ⟨H j, o, none⟩ v) B gl ol K H C := by
  obtain ⟨h1, h2, h3, h4⟩ := h.gr j hj
  have hch : Ch wr (wr.setCell ⟨H j, o, none⟩ v) (fun a o' => a = H j ∧ o' = o) := (Ch.refl wr _).setCell ⟨rfl, rfl⟩ _
  refine ⟨⟨hch.os.trans h.fr.os, hch.tape.trans h.fr.tape, hch.output.trans h.fr.output, by rw [hch.size]; exact h.fr.size, fun k hk hn => ?_⟩, fun i hi => ?_, fun i hi => ?_⟩
  · rw [hch.blk k fun o' q => ?_]
    · exact h.fr.blk k hk hn
    · rcases h1 with q1 | q1
      · omega
      · exact hn (.inr (by rw [q.1]; exact q1))
  · rw [hch.cell gl _ fun q => h2 q.1.symm]; exact h.new i hi
  · obtain ⟨k1, k2, k3, k4⟩ := h.gr i hi
    refine ⟨k1, k2, fun o' => by rw [hch.fz]; exact k3 o', fun x hx => ?_⟩
    obtain ⟨u, hu⟩ := k4 x hx
    have := hch.dom ⟨H i, x * 2, none⟩
    rw [hu] at this
    cases hz : (wr.setCell ⟨H j, o, none⟩ v).cell? ⟨H i, x * 2, none⟩ with
    | none => rw [hz] at this; cases this
    | some z => exact ⟨z, rfl⟩

set_option maxHeartbeats 4000000 in
/-- grown, of the same batches. -/
theorem grown_walk (B : BV) (aa ab : Option Addr) (ca cb gl ol : Nat) (pa pb : Nat → Option Addr) (xa xb : Nat → Nat) (K : Nat → Prop) (w : World) (hn : B.n < 1000) (hl : ∀ i, i < B.n → B.ln i < 1000) (hA : BS w B aa pa xa) (hB : BS w B ab pb xb)
    (haa : 0 < B.n → aa = some ⟨gl, ol, none⟩ ∧ gl < w.heap.size ∧ ∀ o, w.frozen? ⟨gl, o, none⟩ = false) (hG : ∀ i, i < B.n → GP w K (pa i) (B.ln i) (xa i) (B.tg i) (B.le i)) (hK1 : ∀ x, K x → B.n = 1) (hKl : ¬ K gl)
    (hpl : ∀ i, i < B.n → ∀ g o, pa i = some ⟨g, o, none⟩ → g < w.heap.size ∧ g ≠ gl) (hab : ∀ g o, ab = some ⟨g, o, none⟩ → 0 < B.n → g < w.heap.size ∧ g ≠ gl ∧ ¬ K g) (hpb : ∀ i, i < B.n → ∀ g o, pb i = some ⟨g, o, none⟩ → 0 < B.ln i → g < w.heap.size ∧ g ≠ gl ∧ ¬ K g) :
    Calls Tryd.prog 30 #[.slice aa B.n ca, .slice ab B.n cb] w fun e w' => e = .returned (.bool true) ∧ Fr w w' (fun x => (x = gl ∧ 0 < B.n) ∨ K x) := by
  have HAl := hide (alike_walk B aa ab ca cb pa pb xa xb w hn hl hA hB)
  have HA := hide hA; have HB := hide hB; have HL := hide hl; have HAA := hide haa; have HG0 := hide hG; have HK1 := hide hK1; have HPL := hide hpl; have HAB := hide hab; have HPB := hide hpb; have HKl := hide hKl
  clear hA hB hl haa hG hK1 hpl hab hpb hKl
  go_enter Tryd.func30, Tryd.ntmps30
  go_wp2_with fail
  refine (unhide HAl).mono ?_
  rintro e w1 ⟨rfl, hch⟩
  by_cases hn0 : B.n = 0
  · have hfr : Fr w w1 (fun x => (x = gl ∧ 0 < B.n) ∨ K x) := ⟨hch.os, hch.tape, hch.output, by rw [hch.size]; exact Nat.le_refl _, fun k _ _ => hch.blk k fun _ q => q⟩
    have HFR := hide hfr
    clear hch hfr
    rw [hn0]
    go_wp2_with fail
    go_loopg [6] 0 (fun gk i wr => i = .int .i64 0 ∧ Fr w wr (fun x => (x = gl ∧ 0 < B.n) ∨ K x))
    case atStart => exact ⟨rfl, unhide HFR⟩
    case round =>
      obtain ⟨hu, hf1⟩ := hrel
      rw [hu]
      clear hu HFR
      have HFR := hide hf1
      clear hf1
      go_wp2_with fail
      go_loopg [7] 0 (fun gk i wr => i = .int .i64 0 ∧ Fr w wr (fun x => (x = gl ∧ 0 < B.n) ∨ K x))
      case atStart => exact ⟨rfl, unhide HFR⟩
      case round =>
        obtain ⟨hu, hf1⟩ := hrel
        rw [hu]
        clear hu HFR
        have HFR := hide hf1
        clear hf1
        go_wp2_with fail
        go_loopg [10] 0 (fun gk i wr => i = .int .i64 0 ∧ Fr w wr (fun x => (x = gl ∧ 0 < B.n) ∨ K x))
        case atStart => exact ⟨rfl, unhide HFR⟩
        case round =>
          obtain ⟨hu, hf1⟩ := hrel
          rw [hu]
          clear hu HFR
          have HFR := hide hf1
          clear hf1
          go_wp2_with fail
          go_ret
          exact ⟨rfl, unhide HFR⟩
  · obtain ⟨hgl, hglt, hfz⟩ := unhide HAA (by omega)
    have hgi0 : GI w w1 B gl ol K pa xa 0 (fun _ => 0) (fun _ => 0) := by
      refine ⟨⟨hch.os, hch.tape, hch.output, by rw [hch.size]; exact Nat.le_refl _, fun k _ _ => hch.blk k fun _ q => q⟩, fun o => by rw [hch.fz]; exact hfz o, fun j hj _ => ?_, fun j hj => by omega, fun j hj => by omega, fun i j hi => by omega⟩
      obtain ⟨g, o, e, _, _, h2⟩ := (unhide HA).row j hj
      rw [hgl] at e
      injection e with e
      injection e with e1 e2
      subst e1 e2
      rw [hch.cell _ _ (fun q => q)]; exact h2
    have HGI0 := hide hgi0
    clear hgi0 hch hfz
    subst hgl
    go_wp2_with fail
    go_loopg [6] B.n (fun gk i wr => ∃ (k : Nat) (H C : Nat → Nat), i = .int .i64 (k : Int) ∧ gk = B.n - k ∧ k ≤ B.n ∧ GI w wr B gl ol K pa xa k H C)
    case atStart => exact ⟨0, _, _, rfl, rfl, Nat.zero_le _, unhide HGI0⟩
    case round =>
      obtain ⟨k, H, C, hu, hgk, hkn, hgi⟩ := hrel
      rw [hu]
      clear hu HGI0
      have HG := hide hgk; have HGI := hide hgi
      clear hgk
      by_cases hk : k < B.n
      · have a2 := hgi.old k hk (Nat.le_refl _)
        have hki : (k : Int) < (B.n : Int) := by omega
        have hk0 : (0 : Int) ≤ (k : Int) := by omega
        have hlk := unhide HL k hk
        have HGP : Hid (GP (wr.alloc (.cells #[.int .i64 (-7), .int .i64 (-7)] 102)) K (pa k) (B.ln k) (xa k) (B.tg k) (B.le k)) := by
          refine (unhide HG0 k hk).kept fun g o e => ?_
          obtain ⟨q1, q2⟩ := unhide HPL k hk g o e
          rw [Below.heap_alloc _ _ _ (Nat.lt_of_lt_of_le q1 hgi.fr.size), hgi.fr.blk g q1 fun q => ?_]
          rcases q with q | q
          · exact q2 q
          · have := unhide HK1 g q.1; omega
        have HN0 : Hid ((wr.alloc (.cells #[.int .i64 (-7), .int .i64 (-7)] 102)).cell? ((⟨wr.heap.size, 0, none⟩ : Addr).add 0) = some (.int .i64 (-7))) := by
          show (wr.alloc _).cell? _ = _
          rw [add_lit, heap_cell (heap_alloc_new _ _)]; rfl
        have HN1 : Hid ((wr.alloc (.cells #[.int .i64 (-7), .int .i64 (-7)] 102)).cell? ((⟨wr.heap.size, 0, none⟩ : Addr).add 1) = some (.int .i64 (-7))) := by
          show (wr.alloc _).cell? _ = _
          rw [add_lit, heap_cell (heap_alloc_new _ _)]; rfl
        clear hgi
        go_wp2_with (first | (at_builtin; refine wpList_append_g rfl _ _ rfl K (pa k) (B.ln k) (xa k) (B.tg k) (B.le k) rfl hlk (unhide HGP) ⟨wr.heap.size, 0, none⟩ rfl (unhide HN0) (unhide HN1) ?_; intro x cap w2 hfr hx hgr; obtain ⟨s1, s2, s3⟩ := (unhide HGI).step hk (unhide HK1) (unhide HKl) hglt _ hfr (cap := cap) hx hgr; have HS3 := hide s3; clear hfr hx hgr s3 a2))
        go_roundg (B.n - (k + 1))
        case measure => rw [unhide HG]; omega
        case rel => exact ⟨k + 1, _, _, by go_num, rfl, by omega, unhide HS3⟩
      · have hki : ¬ (k : Int) < (B.n : Int) := by omega
        have hkn' : k = B.n := by omega
        subst hkn'
        clear hgi HG hki
        go_wp2_with fail
        go_loopg [7] B.n (fun gk i wr => ∃ k : Nat, i = .int .i64 (k : Int) ∧ gk = B.n - k ∧ k ≤ B.n ∧ GI w wr B gl ol K pa xa B.n H C)
        case atStart => exact ⟨0, rfl, rfl, Nat.zero_le _, unhide HGI⟩
        case round =>
          obtain ⟨k, hu, hgk, hkn, hgi⟩ := hrel
          rw [hu]
          clear hu HGI
          have HG := hide hgk; have HGI := hide hgi
          clear hgk
          by_cases hk : k < B.n
          · obtain ⟨gb, ob, hb, _, _, b2⟩ := (unhide HB).row k hk
            obtain ⟨q1, q2, q3⟩ := unhide HAB gb ob hb (by omega)
            have hbk : wr.heap[gb]? = w.heap[gb]? := hgi.fr.blk gb q1 fun q => by
              rcases q with q | q
              · exact q2 q
              · exact q3 q.1
            rw [← World.cell?_of_block (w := w) (w' := wr) (a := ⟨gb, ob + k * 3 + 2, none⟩) hbk] at b2
            have a2 := hgi.new k hk
            have hgr := (hgi.gr k hk).2
            have a7 := hgr.new.1
            have hki : (k : Int) < (B.n : Int) := by omega
            have hk0 : (0 : Int) ≤ (k : Int) := by omega
            have hlk := unhide HL k hk
            have hl0 : (0 : Int) ≤ (B.ln k : Int) := by omega
            have hl1 : (B.ln k : Int) < (B.ln k : Int) + 1 := by omega
            have hl2 : ((B.ln k : Int) + 1 != (B.ln k : Int) + 1) = false := by simp
            have h77 : ((-7 : Int) != -7) = false := by decide
            subst hb
            clear hgi hgr hbk q1 q2 q3
            go_wp2_with fail
            go_loopg [9] (B.ln k) (fun gk i wr => ∃ j : Nat, i = .int .i64 (j : Int) ∧ gk = B.ln k - j ∧ j ≤ B.ln k ∧ GI w wr B gl ol K pa xa B.n H C)
            case atStart => exact ⟨0, rfl, rfl, Nat.zero_le _, unhide HGI⟩
            case round =>
              obtain ⟨j, hu, hgj, hjn, hgi⟩ := hrel
              rw [hu]
              clear hu
              have HGJ := hide hgj; have HGI2 := hide hgi
              clear hgj a2 a7 b2
              by_cases hj : j < B.ln k
              · obtain ⟨gb', ob', hb', _, _, b2⟩ := (unhide HB).row k hk
                injection hb' with hb'
                injection hb' with ea eo _
                subst ea eo
                obtain ⟨q1, q2, q3⟩ := unhide HAB gb ob rfl (by omega)
                have hbk : wr.heap[gb]? = w.heap[gb]? := hgi.fr.blk gb q1 fun q => by
                  rcases q with q | q
                  · exact q2 q
                  · exact q3 q.1
                rw [← World.cell?_of_block (w := w) (w' := wr) (a := ⟨gb, ob + k * 3 + 2, none⟩) hbk] at b2
                obtain ⟨g2, o2, hp2, d0, d1⟩ := (unhide HB).pk k j hk hj
                obtain ⟨r1, r2, r3⟩ := unhide HPB k hk g2 o2 hp2 (by omega)
                have hbk2 : wr.heap[g2]? = w.heap[g2]? := hgi.fr.blk g2 r1 fun q => by
                  rcases q with q | q
                  · exact r2 q
                  · exact r3 q.1
                rw [← World.cell?_of_block (w := w) (w' := wr) (a := ⟨g2, o2 + j * 2, none⟩) hbk2] at d0
                rw [← World.cell?_of_block (w := w) (w' := wr) (a := ⟨g2, o2 + j * 2 + 1, none⟩) hbk2] at d1
                have a2 := hgi.new k hk
                obtain ⟨c0, c1⟩ := (hgi.gr k hk).2.old j hj
                rw [hp2] at b2
                have hji : (j : Int) < (B.ln k : Int) := by omega
                have hj0 : (0 : Int) ≤ (j : Int) := by omega
                have hji1 : (j : Int) < (B.ln k : Int) + 1 := by omega
                have hy0 : (B.tg k j != B.tg k j) = false := by simp
                have hy1 : (B.le k j != B.le k j) = false := by simp
                clear hgi hp2 hbk hbk2 q1 q2 q3 r1 r2 r3
                go_wp2_with fail
                go_quiet (fail)
                go_wp2_with fail
                go_roundg (B.ln k - (j + 1))
                case measure => rw [unhide HGJ]; omega
                case rel => exact ⟨j + 1, by go_num, rfl, by omega, (unhide HGI2).drewN _⟩
              · have hji : ¬ (j : Int) < (B.ln k : Int) := by omega
                clear hgi
                go_wp2_with fail
                go_roundg (B.n - (k + 1))
                case measure => rw [unhide HG]; omega
                case rel => exact ⟨k + 1, by go_num, rfl, by omega, unhide HGI2⟩
          · have hki : ¬ (k : Int) < (B.n : Int) := by omega
            have HGS := hide (hgi.spoil (unhide HKl) hglt)
            clear hgi HGI
            go_wp2_with fail
            go_loopg [10] B.n (fun gk i wr => ∃ k : Nat, i = .int .i64 (k : Int) ∧ gk = B.n - k ∧ k ≤ B.n ∧ GS w wr B gl ol K H C)
            case atStart => exact ⟨0, rfl, rfl, Nat.zero_le _, unhide HGS⟩
            case round =>
              obtain ⟨k, hu, hgk, hkn, hgi⟩ := hrel
              rw [hu]
              clear hu HGS HG hki
              have HG := hide hgk; have HGS := hide hgi
              clear hgk
              by_cases hk : k < B.n
              · have hki : (k : Int) < (B.n : Int) := by omega
                have hk0 : (0 : Int) ≤ (k : Int) := by omega
                have hlk := unhide HL k hk
                clear hgi
                go_wp2_with fail
                go_loopg [11] (B.ln k + 1) (fun gk i wr => ∃ j : Nat, i = .int .i64 (j : Int) ∧ gk = B.ln k + 1 - j ∧ j ≤ B.ln k + 1 ∧ GS w wr B gl ol K H C)
                case atStart => exact ⟨0, rfl, rfl, Nat.zero_le _, unhide HGS⟩
                case round =>
                  obtain ⟨j, hu, hgj, hjn, hgs⟩ := hrel
                  rw [hu]
                  clear hu
                  have HGJ := hide hgj; have HGS2 := hide hgs
                  clear hgj
                  have a2 := hgs.new k hk
                  by_cases hj : j < B.ln k + 1
                  · obtain ⟨_, _, z1, z2⟩ := hgs.gr k hk
                    obtain ⟨u, z3⟩ := z2 j hj
                    have z4 := z1 (j * 2)
                    have hji : (j : Int) < (B.ln k : Int) + 1 := by omega
                    have hj0 : (0 : Int) ≤ (j : Int) := by omega
                    clear hgs z1 z2
                    go_wp2_with fail
                    go_roundg (B.ln k + 1 - (j + 1))
                    case measure => rw [unhide HGJ]; omega
                    case rel => exact ⟨j + 1, by go_num, rfl, by omega, (unhide HGS2).set hk _ _⟩
                  · have hji : ¬ (j : Int) < (B.ln k : Int) + 1 := by omega
                    clear hgs
                    go_wp2_with fail
                    go_roundg (B.n - (k + 1))
                    case measure => rw [unhide HG]; omega
                    case rel => exact ⟨k + 1, by go_num, rfl, by omega, unhide HGS2⟩
              · have hki : ¬ (k : Int) < (B.n : Int) := by omega
                clear hgi
                go_wp2_with fail
                go_ret
                refine ⟨rfl, ?_⟩
                have hf := (unhide HGS).fr
                exact ⟨hf.os, hf.tape, hf.output, hf.size, fun x hx hnx => hf.blk x hx fun q => hnx (by
                  rcases q with q | q
                  · exact .inl ⟨q, by omega⟩
                  · exact .inr q)⟩
end Go.Proofs.YtogdekjklbbbiaaDoor
