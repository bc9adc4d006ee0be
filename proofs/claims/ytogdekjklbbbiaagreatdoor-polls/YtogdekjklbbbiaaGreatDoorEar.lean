import Derived.RangeFuncNested
import Derived.RangeFuncBound
import Derived.RangeFuncCalls
import Derived.RangeFuncLeaves
import Derived.RangeFuncFrom
import Derived.Shelf.Abstract
import Derived.Shelf.RegionOpen
import Derived.WalkKit
import Derived.OwnWalkIn
import Derived.TacticsInMore
import Derived.LoopNIn
import Derived.LoopIn
import Derived.Test.YtogdekjklbbbiaaGreatDoorZ18
namespace Go.Proofs.YtogdekjklbbbiaaGreatDoor
open Go.RowKit Go.Shelf
set_option linter.unusedSimpArgs false
set_option linter.unusedVariables false
attribute [local go_sem] Oper.semAt_some

/-- From p on the links lead through xs, in blocks below n₀. -/
def Chn (n₀ : Nat) (W : World) : Option Nat → List Nat → Prop
  | p, [] => p = none
  | p, x :: r => p = some x ∧ x < n₀ ∧ ∃ q : Option Nat, W.cell? ⟨x, 1, none⟩ = some (.pointer (q.map fun y => ⟨y, 0, none⟩)) ∧ Chn n₀ W q r
theorem Chn.below {n₀ : Nat} {A B : World} (h : Below n₀ A B) : ∀ {p : Option Nat} {xs : List Nat}, Chn n₀ A p xs → Chn n₀ B p xs
  | _, [], hl => hl
  | _, x :: _, ⟨hp, hx, q, hq, hr⟩ => ⟨hp, hx, q, (h.cell (p := ⟨x, 1, none⟩) hx).trans hq, Chn.below h hr⟩
theorem pv_inj {p q : Option Nat} (h : Value.pointer (p.map fun y => (⟨y, 0, none⟩ : Addr)) = Value.pointer (q.map fun y => (⟨y, 0, none⟩ : Addr))) : p = q := by
  cases p <;> cases q <;> simp_all
theorem Chn.unique {n₀ : Nat} {W : World} : ∀ {p : Option Nat} {xs ys : List Nat}, Chn n₀ W p xs → Chn n₀ W p ys → xs = ys
  | _, [], [], _, _ => rfl
  | _, [], _ :: _, h, ⟨hp, _⟩ => by rw [h] at hp; cases hp
  | _, _ :: _, [], ⟨hp, _⟩, h => by rw [h] at hp; cases hp
  | _, x :: xs, y :: ys, ⟨hp, _, q, hq, hr⟩, ⟨hp', _, q', hq', hr'⟩ => by
    rw [hp] at hp'; cases hp'
    rw [hq] at hq'
    have e := pv_inj (by simpa using hq' : Value.pointer (q.map fun y => (⟨y, 0, none⟩ : Addr)) = Value.pointer (q'.map fun y => (⟨y, 0, none⟩ : Addr)))
    subst e
    rw [Chn.unique hr hr']
open Classical in
noncomputable def leftW (n₀ : Nat) (W : World) (v : Value) : Nat :=
  if h : ∃ r : Option Nat × List Nat, v = .pointer (r.1.map fun y => ⟨y, 0, none⟩) ∧ Chn n₀ W r.1 r.2 then (Classical.choose h).2.length else 0
theorem leftW_eq {n₀ : Nat} {W : World} {q : Option Nat} {xs : List Nat} (h : Chn n₀ W q xs) : leftW n₀ W (.pointer (q.map fun y => ⟨y, 0, none⟩)) = xs.length := by
  have hex : ∃ r : Option Nat × List Nat, Value.pointer (q.map fun y => (⟨y, 0, none⟩ : Addr)) = .pointer (r.1.map fun y => ⟨y, 0, none⟩) ∧ Chn n₀ W r.1 r.2 := ⟨(q, xs), rfl, h⟩
  unfold leftW
  rw [dif_pos hex]
  obtain ⟨e, hl⟩ := Classical.choose_spec hex
  have e' := pv_inj e
  rw [← e'] at hl
  rw [Chn.unique hl h]

theorem meth_links (a : Option Addr) (W : World) : Sem.run Tryz.prog (method 399 116 (Value.pointer a) "Links") W = .ok (198, .pointer a) W := by kernel_rfl
set_option maxHeartbeats 1000000 in
theorem links_in (F : Fence) (n : Nat) (h61 : F.fn 198) (hro : F.round = none) (x : Nat) (w : World) : CallsIn F n Tryz.prog 198 #[.pointer (some ⟨x, 0, none⟩)] w fun e w' => e = .returned (.pointer (some ⟨x, 0, none⟩)) ∧ w' = w := by
  refine callsIn_of_wp Tryz.func198 rfl h61 ?_ hro
  simp only [Tryz.ntmps198, List.size_toArray, List.length_cons, List.length_nil, Nat.reduceAdd, Nat.reduceSub, Array.replicate_succ, Array.replicate_zero, List.push_toArray, List.append_toArray, List.nil_append, List.cons_append]
  gi_wp2
  go_ret
  exact ⟨rfl, rfl⟩

set_option maxRecDepth 100000 in
set_option maxHeartbeats 1000000 in
theorem all1_in (F : Fence) (n : Nat) (h41 : F.fn 142) (h61 : F.fn 198) (hro : F.round = none) (hn : 1 ≤ n) {xs : List Nat} (l Bn b o n₀ : Nat) (p0 : Option Nat) (ys : List { x : Nat // x ∈ xs }) (J Jx : List { x : Nat // x ∈ xs } → World → Prop)
    (hY : ∀ pre x W, J pre W → pre.length < ys.length → YieldAt F (n - 1) Tryz.prog l #[.pointer (some ⟨x.1, 0, none⟩)] W fun e W' =>
      (e = .returned (.bool true) ∧ J (pre ++ [x]) W' ∧ Below n₀ W W') ∨ (e = .returned (.bool false) ∧ Jx (pre ++ [x]) W'))
    (W : World) (hBn : W.cell? ⟨Bn, 0, none⟩ = some (.pointer (some ⟨b, o, none⟩))) (hF : W.cell? ⟨b, o, none⟩ = some (.pointer (p0.map fun y => ⟨y, 0, none⟩))) (hL : Chn n₀ W p0 (ys.map Subtype.val)) (h0 : J [] W) :
    CallsIn F n Tryz.prog 142 #[.func (.yield l) #[] #[], .pointer (some ⟨Bn, 0, none⟩)] W fun e W' => (∃ v, e = .returned v) ∧
      ((∃ zs, zs = ys ∧ J zs W') ∨ (∃ pre, pre <+: ys ∧ Jx pre W')) := by
  refine callsIn_of_wp Tryz.func142 rfl h41 ?_ hro
  simp only [Tryz.ntmps142, List.size_toArray, List.length_cons, List.length_nil, Nat.reduceAdd, Nat.reduceSub, Array.replicate_succ, Array.replicate_zero, List.push_toArray, List.append_toArray, List.nil_append, List.cons_append]
  gi_wp2
  gi_loopw [4] (fun p wr => ∃ (pre rest : List { x : Nat // x ∈ xs }) (q : Option Nat), p = .pointer (q.map fun y => ⟨y, 0, none⟩) ∧ ys = pre ++ rest ∧ Chn n₀ wr q (rest.map Subtype.val) ∧ J pre wr)
    (fun p wr => leftW n₀ wr p)
  case atStart =>
    exact ⟨[], ys, p0, rfl, rfl, hL, h0⟩
  case round =>
    obtain ⟨pre, rest, q, rfl, hx, hl, hJs⟩ := hrel
    cases rest with
    | nil =>
      obtain rfl : q = none := hl
      gi_wp2
      go_end0
      exact ⟨⟨_, rfl⟩, .inl ⟨pre, by simp [hx], hJs⟩⟩
    | cons x rest =>
      have hl' := hl
      obtain ⟨rfl, hb, q', hq, hr⟩ := hl
      obtain ⟨fn, tmps, assign, body, hy, hR⟩ := hY pre x wr hJs (by rw [hx]; simp)
      gi_wp2
      refine hR.mono ?_
      rintro e W3 (⟨rfl, hJ3, hk3⟩ | ⟨rfl, hJx3⟩)
      · have hq3 : W3.cell? ⟨x.1, 1, none⟩ = some (.pointer (q'.map fun y => ⟨y, 0, none⟩)) := (hk3.cell (p := ⟨x.1, 1, none⟩) hb).trans hq
        have hm := meth_links (some ⟨x.1, 0, none⟩) W3
        gi_wp2_with (gi_at_call 198; refine (links_in F _ h61 hro _ _).mono ?_; rintro e w' ⟨rfl, rfl⟩)
        go_roundw
        case rel => exact ⟨pre ++ [x], rest, q', rfl, by simp [hx], hr.below hk3, hJ3⟩
        case measure => rw [leftW_eq (hr.below hk3), leftW_eq hl']; simp
      · gi_wp2
        refine bodyPost_ret (results_none rfl _ _ _) rfl ?_
        exact ⟨⟨_, rfl⟩, .inr ⟨pre ++ [x], ⟨rest, by simp [hx]⟩, hJx3⟩⟩

set_option maxHeartbeats 1000000 in
theorem all_in (F : Fence) (n : Nat) (h36 : F.fn 118) (hro : F.round = none) (p0 : Option Addr) (w : World) :
    CallsIn F n Tryz.prog 118 #[.pointer p0] w fun e w' => e = .returned (.func (.func 142) #[] #[.pointer (some ⟨w.heap.size, 0, none⟩)]) ∧ w' = w.alloc (.cells #[.pointer p0] 181) := by
  refine callsIn_of_wp Tryz.func118 rfl h36 ?_ hro
  simp only [Tryz.ntmps118, List.size_toArray, List.length_cons, List.length_nil, Nat.reduceAdd, Nat.reduceSub, Array.replicate_succ, Array.replicate_zero, List.push_toArray, List.append_toArray, List.nil_append, List.cons_append]
  gi_wp2
  go_ret
  exact ⟨rfl, rfl⟩

theorem all_stops (F : Fence) (n : Nat) (h41 : F.fn 142) (h61 : F.fn 198) (hro : F.round = none) (hn : 1 ≤ n) {xs : List Nat} (Bn b o n₀ : Nat) (p0 : Option Nat) (ys : List { x : Nat // x ∈ xs }) (w : World) (hBn : Bn < w.heap.size) (hn₀ : n₀ ≤ w.heap.size) (hb : b < n₀)
    (hc : w.cell? ⟨Bn, 0, none⟩ = some (.pointer (some ⟨b, o, none⟩))) (hF : w.cell? ⟨b, o, none⟩ = some (.pointer (p0.map fun y => ⟨y, 0, none⟩))) (hL : Chn n₀ w p0 (ys.map Subtype.val)) :
    SeqStopsK F n Tryz.prog 142 #[.pointer (some ⟨Bn, 0, none⟩)] (fun x : { x : Nat // x ∈ xs } => #[Value.pointer (some ⟨x.1, 0, none⟩)]) (Below n₀) (fun zs => zs = ys) (fun pre => pre <+: ys) ys.length w := fun l J Jx W hW _ _ hY h0 =>
  all1_in F n h41 h61 hro hn l Bn b o n₀ p0 ys J Jx hY W ((hW.cell (p := ⟨Bn, 0, none⟩) hBn).trans hc) ((hW.cell (p := ⟨b, o, none⟩) (Nat.lt_of_lt_of_le hb hn₀)).trans hF) (hL.below (hW.mono hn₀)) h0

theorem cell_of_box_l {W : World} {B : Nat} {v : Value} {t : TypeId} (h : W.heap[B]? = some (.cells #[v] t (0, 0))) : W.cell? ⟨B, 0, none⟩ = some v ∧ W.frozen? ⟨B, 0, none⟩ = false := by
  constructor <;> simp [World.cell?, World.frozen?, h]
theorem cell_new_l (W : World) (v : Value) (t : TypeId) : (W.alloc (.cells #[v] t)).cell? ⟨W.heap.size, 0, none⟩ = some v ∧ (W.alloc (.cells #[v] t)).frozen? ⟨W.heap.size, 0, none⟩ = false :=
  cell_of_box_l (World.alloc_heap_new W _)
theorem cell_alloc_l {W : World} {a : Addr} {v : Value} (o : Obj) (h : W.cell? a = some v) : (W.alloc o).cell? a = some v := cell_kept h (World.grownBy_alloc W o none) (fun r e => by cases e)
theorem frozen_alloc_l {W : World} {a : Addr} {v : Value} (o : Obj) (h : W.cell? a = some v) (hf : W.frozen? a = false) : (W.alloc o).frozen? a = false := (frozen_kept h (World.grownBy_alloc W o none) (fun r e => by cases e)).trans hf

/-- The first of those with the least time. -/
def earS (ats : Nat → Nat) (m : Option Nat) (x : Nat) : Option Nat := match m with | none => some x | some y => if ats x < ats y then some x else some y
def earI (ats : Nat → Nat) (pre : List Nat) : Option Nat := pre.foldl (earS ats) none
theorem earI_snoc (ats : Nat → Nat) (pre : List Nat) (x : Nat) : earI ats (pre ++ [x]) = earS ats (earI ats pre) x := by
  unfold earI
  rw [List.foldl_append]
  rfl
theorem rev_ind {α : Type} {P : List α → Prop} (h0 : P []) (h1 : ∀ l x, P l → P (l ++ [x])) (l : List α) : P l := by
  have h : ∀ m : List α, P m.reverse := by
    intro m
    induction m with
    | nil => exact h0
    | cons x m ih => rw [List.reverse_cons]; exact h1 _ _ ih
  rw [← List.reverse_reverse l]
  exact h _
theorem earI_mem (ats : Nat → Nat) : ∀ (pre : List Nat) {y : Nat}, earI ats pre = some y → y ∈ pre := by
  intro pre
  refine rev_ind (P := fun pre => ∀ {y : Nat}, earI ats pre = some y → y ∈ pre) ?_ ?_ pre
  · intro y h; cases h
  · intro pre x ih y h
    rw [earI_snoc] at h
    cases e : earI ats pre with
    | none => rw [e] at h; simp [earS] at h; simp [h]
    | some z =>
      rw [e] at h
      simp only [earS] at h
      split at h
      · injection h with h; simp [h]
      · injection h with h; have := ih e; simp [← h, this]

set_option maxRecDepth 100000 in
set_option maxHeartbeats 0 in
theorem ear_in (F : Fence) (n : Nat) (h24 : F.fn 71) (h36 : F.fn 118) (h41 : F.fn 142) (h61 : F.fn 198) (hro : F.round = none) (hn : 3 ≤ n) (b o : Nat) (xs : List Nat) (ats : Nat → Nat) (w : World) (hb : b < w.heap.size)
    (hF : w.cell? ⟨b, o, none⟩ = some (.pointer (xs.head?.map fun y => ⟨y, 0, none⟩))) (hL : Chn w.heap.size w xs.head? xs) (hA : ∀ x ∈ xs, x < w.heap.size ∧ w.cell? ⟨x, 3, none⟩ = some (.int .i64 (ats x : Int))) :
    CallsIn F n Tryz.prog 71 #[.pointer (some ⟨b, o, none⟩)] w fun e W' => e = .returned (PV (earI ats xs)) ∧ Below w.heap.size w W' := by
  have h1 : 1 ≤ n := by omega
  refine callsIn_of_wp_marks Tryz.func71 rfl h24 ?_ hro
  simp only [Tryz.ntmps71, List.size_toArray, List.length_cons, List.length_nil, Nat.reduceAdd, Nat.reduceSub, Array.replicate_succ, Array.replicate_zero, List.push_toArray, List.append_toArray, List.nil_append, List.cons_append]
  gi_wp2_with (gi_at_call 118; refine (all_in F (n - 1) h36 hro _ _).mono ?_; rintro e w' ⟨rfl, rfl⟩)
  have hs := cell_new_l w (.pointer none) 116
  have hbx := cell_new_l (w.alloc (.cells #[.pointer none] 116)) (.pointer (some ⟨b, o, none⟩)) 181
  rw [World.size_alloc] at hbx
  have hB0 : Below w.heap.size w ((w.alloc (.cells #[.pointer none] 116)).alloc (.cells #[.pointer (some ⟨b, o, none⟩)] 181)) := ((Below.refl _ w).alloc (Nat.le_refl _) _).alloc (by simp) _
  have hmap : (xs.attach.map Subtype.val) = xs := List.attach_map_subtype_val xs
  refine wpIn_rangeFunc_ownF hro h1 (gf := 142) (lb := #[.pointer (some ⟨w.heap.size + 1, 0, none⟩)]) rfl h41 (enters_of Tryz.func142 (by kernel_rfl) rfl)
    (all_stops F (n - 1) h41 h61 hro (by omega) (w.heap.size + 1) b o w.heap.size xs.head? xs.attach _ (by simp) (by simp; omega) hb hbx.1 ((hB0.cell (p := ⟨b, o, none⟩) hb).trans hF) (by rw [hmap]; exact hL.below hB0)) belowK_t (belowK_b (by simp; omega)) (Below.refl _ _) (fun _ => rfl)
    (fun pre W => (W.cell? ⟨w.heap.size, 0, none⟩ = some (PV (earI ats (pre.map Subtype.val))) ∧ W.frozen? ⟨w.heap.size, 0, none⟩ = false) ∧ Below w.heap.size w W)
    (fun _ _ _ => False)
    (OwnFrom.and (Own.from (fun s A B row hs hg hr => ⟨cell_kept hs.1 hg hr, (frozen_kept hs.1 hg hr).trans hs.2⟩) _) (ownFrom_below (Nat.le_refl _) (by simp; omega)))
    (fun _ _ _ _ _ hs _ _ => hs)
    ⟨⟨cell_alloc_l _ hs.1, frozen_alloc_l _ hs.1 hs.2⟩, hB0⟩
    (fun x => { tmps := #[.pointer (some ⟨b, o, none⟩), undef, .pointer none, .pointer (some ⟨w.heap.size, 0, none⟩), .pointer (some ⟨x.1, 0, none⟩), .pointer (some ⟨b, o, none⟩), .func (.func 142) #[] #[.pointer (some ⟨w.heap.size + 1, 0, none⟩)], .pointer (some ⟨x.1, 0, none⟩), undef, undef, undef, undef, undef, undef, undef, undef, undef, undef, undef, undef, undef, undef, undef], defers := [] }) ?assign ?body ?done ?stop
  case assign =>
    intro l x W K hK
    gi_wp2
    exact hK
  case body =>
    rintro l pre x W ⟨⟨hc, hf⟩, hB⟩ _
    have hcx : W.cell? ⟨x.1, 3, none⟩ = some (.int .i64 (ats x.1 : Int)) := (hB.cell (p := ⟨x.1, 3, none⟩) (hA x.1 x.2).1).trans (hA x.1 x.2).2
    have hsn : Hid (earI ats ((pre ++ [x]).map Subtype.val) = earS ats (earI ats (pre.map Subtype.val)) x.1) := by
      rw [List.map_append]; exact earI_snoc ats (pre.map Subtype.val) x.1
    have hmem : Hid (∀ y, earI ats (pre.map Subtype.val) = some y → y ∈ xs) := fun y hy => by
      have := earI_mem ats _ hy
      obtain ⟨z, _, rfl⟩ := List.mem_map.1 this
      exact z.2
    generalize hm : earI ats (pre.map Subtype.val) = m at hc hsn hmem
    have hmix : Tryz.prog.follows .mixedOrders = true := by kernel_rfl
    have hput : Hid (earI ats ((pre ++ [x]).map Subtype.val) = some x.1 → ownPostK (Below w.heap.size)
        (fun pre W => (W.cell? ⟨w.heap.size, 0, none⟩ = some (PV (earI ats (pre.map Subtype.val))) ∧ W.frozen? ⟨w.heap.size, 0, none⟩ = false) ∧ Below w.heap.size w W)
        (fun _ _ _ => False) (pre ++ [x]) W Exit.normal { tmps := #[], defers := [] } (W.setCell ⟨w.heap.size, 0, none⟩ (.pointer (some ⟨x.1, 0, none⟩))).drew) := fun e =>
      ⟨(KeepsOthers.setCell _ _ _).trans (KeepsOthers.drew _), ((Below.refl w.heap.size W).setCell (p := ⟨w.heap.size, 0, none⟩) (Nat.le_refl _) _).drew,
        ⟨by rw [e]; exact World.cell?_setCell_same' _ _ _ (by rw [hc]; rfl), by rw [frozen_drew_own, World.frozen?_setCell]; exact hf⟩, (hB.setCell (p := ⟨w.heap.size, 0, none⟩) (Nat.le_refl _) _).drew⟩
    cases m with
    | none =>
      rw [PV_none] at hc
      gi_wp2
      gi_region_with_o (fail)
      all_goals gi_wp2
      all_goals exact unhide hput (by rw [unhide hsn]; rfl)
    | some y =>
      rw [PV_some] at hc
      have hcy : W.cell? ⟨y, 3, none⟩ = some (.int .i64 (ats y : Int)) := by
        have hy := hA y (unhide hmem y rfl)
        exact (hB.cell (p := ⟨y, 3, none⟩) hy.1).trans hy.2
      by_cases h1 : (ats x.1 : Int) < (ats y : Int)
      · gi_wp2
        gi_region_with_o (fail)
        all_goals gi_wp2
        all_goals exact unhide hput (by rw [unhide hsn]; simp only [earS]; rw [if_pos (by omega)])
      · have h1' : decide ((ats x.1 : Int) < (ats y : Int)) = false := decide_eq_false h1
        gi_wp2
        gi_region_with_o (fail)
        all_goals gi_wp2
        all_goals exact ⟨KeepsOthers.drew _, (Below.refl w.heap.size W).drew, ⟨by rw [unhide hsn]; simp only [earS]; rw [if_neg (by omega)]; exact hc, by rw [frozen_drew_own]; exact hf⟩, hB.drew⟩
  case done =>
    rintro D ys W hD rfl ⟨⟨hc, _⟩, hB⟩ hK
    rw [hmap] at hc
    gi_wp2
    refine ⟨by simp, .inl ⟨_, _, rfl, run_takeDeferred hK, ?_⟩⟩
    exact ⟨_, results_tmp rfl _ _ _, rfl, hB.trans (belowK_b (w := w) (Nat.le_refl _) W D _ _ (by simp at hD; omega) hK rfl rfl)⟩
  case stop =>
    rintro D c pre W _ _ h _
    exact h.elim
end Go.Proofs.YtogdekjklbbbiaaGreatDoor
