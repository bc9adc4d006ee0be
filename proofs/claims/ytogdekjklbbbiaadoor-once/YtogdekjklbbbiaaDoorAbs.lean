import Derived.Test.YtogdekjklbbbiaaDoorNxt
import Derived.Test.YtogdekjklbbbiaaDoorCan
import Derived.Test.YtogdekjklbbbiaaDoorNew
set_option maxRecDepth 100000
namespace Go.Proofs.YtogdekjklbbbiaaDoor
open Go.ChangeShapes Go.WideShapes Go.ChangeAt Go.RowKit
set_option linter.unusedSimpArgs false
set_option linter.unusedVariables false

/-- A wheel, by what waits: the ids and their times, in the order in which they were inserted. -/
def WA (w : World) (b : Nat) (O : Nat → Prop) (now : Nat) (A : List (Nat × Nat)) : Prop :=
  ∃ m L ls us ids ats, WH w b m O now L ls us ids ats ∧ A = L.map fun x => (ids x, ats x)

theorem WA.olt {w : World} {b : Nat} {O : Nat → Prop} {now : Nat} {A : List (Nat × Nat)} (h : WA w b O now A) {k : Nat} (hk : O k) : k < w.heap.size := by
  obtain ⟨m, L, ls, us, ids, ats, hW, rfl⟩ := h
  exact hW.mem.olt k hk
theorem WA.kept {w w' : World} {b : Nat} {O O' : Nat → Prop} {now : Nat} {A : List (Nat × Nat)} (h : WA w b O now A) (hf : Fr w w' O') (hd : ∀ k, O k → ¬ O' k) : WA w' b O now A := by
  obtain ⟨m, L, ls, us, ids, ats, hW, rfl⟩ := h
  have hk : ∀ k, O k → w'.heap[k]? = w.heap[k]? := fun k hO => hf.blk k (hW.mem.olt k hO) (hd k hO)
  exact ⟨m, L, ls, us, ids, ats, ⟨hW.mem.kept hf.size hk, hW.map.kept (hk m hW.mem.om), hW.ub, hW.pi⟩, rfl⟩
theorem WA.bd {w : World} {b : Nat} {O : Nat → Prop} {now : Nat} {A : List (Nat × Nat)} (h : WA w b O now A) : ∀ p ∈ A, p.1 < 9223372036854775808 ∧ p.2 < 9223372036854775808 := by
  obtain ⟨m, L, ls, us, ids, ats, hW, rfl⟩ := h
  intro p hp
  obtain ⟨x, hx, rfl⟩ := List.mem_map.1 hp
  exact hW.pi.bd x hx
theorem WA.now {w : World} {b : Nat} {O : Nat → Prop} {now : Nat} {A : List (Nat × Nat)} (h : WA w b O now A) : now < 9223372036854775808 := by
  obtain ⟨m, L, ls, us, ids, ats, hW, rfl⟩ := h
  exact hW.mem.nowlt

theorem wa_new (w : World) :
    Calls Tryd.prog 9 #[] w fun e w' => ∃ b, e = .returned (.pointer (some ⟨b, 0, none⟩)) ∧ Fr w w' (fun _ => False) ∧ ∃ O : Nat → Prop, WA w' b O 0 [] ∧ ∀ k, O k → w.heap.size ≤ k := by
  refine (new_any w).mono ?_
  rintro e w' ⟨rfl, h1, h2, h3⟩
  exact ⟨_, rfl, h1, _, ⟨_, [], _, _, _, _, h3, rfl⟩, fun k hk => hk.1⟩

def hasId (A : List (Nat × Nat)) (id : Int) : Prop := ∃ p ∈ A, (p.1 : Int) = id
instance (A : List (Nat × Nat)) (id : Int) : Decidable (hasId A id) := by unfold hasId; infer_instance
def insE (A : List (Nat × Nat)) (id t : Int) : Int := if id < 0 ∨ t < 0 then 1 else if hasId A id then 4 else 0
def insA (A : List (Nat × Nat)) (id t : Int) : List (Nat × Nat) := if id < 0 ∨ t < 0 then A else if hasId A id then A else A ++ [(id.toNat, t.toNat)]

theorem wa_insert {w : World} {b : Nat} {O : Nat → Prop} {now : Nat} {A : List (Nat × Nat)} (h : WA w b O now A) (id t : Int) (b1 : id < 9223372036854775808) (b2 : t < 9223372036854775808) (hl : A.length < maxLen) :
    Calls Tryd.prog 11 #[.pointer (some ⟨b, 0, none⟩), .int .i64 id, .int .i64 t] w fun e w' => e = .returned (.int .i64 (insE A id t)) ∧ Fr w w' O ∧ ∃ O' : Nat → Prop, WA w' b O' now (insA A id t) ∧ ∀ k, O' k → O k ∨ w.heap.size ≤ k := by
  have hA := h
  obtain ⟨m, L, ls, us, ids, ats, hW, hAe⟩ := h
  by_cases hneg : id < 0 ∨ t < 0
  · refine (insert_bad b id t w hneg).mono ?_
    rintro e w' ⟨rfl, rfl⟩
    refine ⟨by rw [insE, if_pos hneg], Fr.refl _ _, O, ?_, fun k hk => .inl hk⟩
    rw [insA, if_pos hneg]; exact hA
  · have i1 : 0 ≤ id := by omega
    have i2 : 0 ≤ t := by omega
    obtain ⟨idn, rfl⟩ := Int.eq_ofNat_of_zero_le i1
    obtain ⟨tn, rfl⟩ := Int.eq_ofNat_of_zero_le i2
    have wfi : (Lit.int .i64 (idn : Int)).wf = true := by simp [Lit.wf, IntKind.min, IntKind.max, IntKind.signed, IntKind.bits]; omega
    have hlook := hW.map.look (idn : Int) wfi
    by_cases hh : hasId A (idn : Int)
    · obtain ⟨p, hp, hpe⟩ := hh
      have hh : hasId A (idn : Int) := ⟨p, hp, hpe⟩
      rw [hAe] at hp
      obtain ⟨x, hx, rfl⟩ := List.mem_map.1 hp
      have hsome : ∃ y, byId ids L (idn : Int) = some y := by
        apply Option.isSome_iff_exists.1
        unfold byId
        rw [List.find?_isSome]
        exact ⟨x, hx, by simpa using hpe⟩
      obtain ⟨y, hy⟩ := hsome
      rw [hy, PV_some] at hlook
      refine (insert_twice b m y _ _ w i1 i2 hW.mem.cmap hlook).mono ?_
      rintro e w' ⟨rfl, rfl⟩
      refine ⟨by rw [insE, if_neg hneg, if_pos hh], Fr.refl _ _, O, ?_, fun k hk => .inl hk⟩
      rw [insA, if_neg hneg, if_pos hh]; exact hA
    · have hid : ∀ y ∈ L, ids y ≠ idn := by
        intro y hy e
        apply hh
        rw [hAe]
        exact ⟨(ids y, ats y), List.mem_map.2 ⟨y, hy, rfl⟩, by simp [e]⟩
      have hxn : w.heap.size ∉ L := by
        intro q
        have := hW.mem.olt _ (hW.mem.ox _ (home_lt hW.mem.nowlt (hW.pi.bd _ q).2) _ (hW.pi.mem q)).1
        omega
      refine (insert_ok hW idn tn (by omega) (by omega) hid (by rw [hAe] at hl; simpa using hl)).mono ?_
      rintro e w' ⟨rfl, h1, h2⟩
      refine ⟨by rw [insE, if_neg hneg, if_neg hh], h1, _, ⟨m, _, _, _, _, _, h2, ?_⟩, ?_⟩
      · rw [insA, if_neg hneg, if_neg hh, hAe, List.map_append]
        congr 1
        · apply List.map_congr_left
          intro x hx
          have hne : x ≠ w.heap.size := fun e => hxn (e ▸ hx)
          rw [upd_other _ _ hne, upd_other _ _ hne]
        · simp [upd]
      · intro k hk
        exact hk.imp id fun q => q.1

def canE (A : List (Nat × Nat)) (id : Int) : Int := if hasId A id then 0 else 5
def canA (A : List (Nat × Nat)) (id : Int) : List (Nat × Nat) := A.filter fun p => decide ((p.1 : Int) ≠ id)
theorem wa_cancel {w : World} {b : Nat} {O : Nat → Prop} {now : Nat} {A : List (Nat × Nat)} (h : WA w b O now A) (id : Int) (b0 : -9223372036854775808 ≤ id) (b1 : id < 9223372036854775808) :
    Calls Tryd.prog 33 #[.pointer (some ⟨b, 0, none⟩), .int .i64 id] w fun e w' => e = .returned (.int .i64 (canE A id)) ∧ Fr w w' O ∧ WA w' b O now (canA A id) := by
  have hA := h
  obtain ⟨m, L, ls, us, ids, ats, hW, hAe⟩ := h
  have wfi : (Lit.int .i64 id).wf = true := by simp [Lit.wf, IntKind.min, IntKind.max, IntKind.signed, IntKind.bits]; omega
  have hlook := hW.map.look id wfi
  by_cases hh : hasId A id
  · obtain ⟨p, hp, hpe⟩ := hh
    have hh : hasId A id := ⟨p, hp, hpe⟩
    rw [hAe] at hp
    obtain ⟨x, hx, rfl⟩ := List.mem_map.1 hp
    have hpe' : (ids x : Int) = id := hpe
    rw [← hpe'] at hh ⊢
    refine (cancel_ok hW hx).mono ?_
    rintro e w' ⟨rfl, h1, h2, us', h3⟩
    refine ⟨by rw [canE, if_pos hh], h1, ⟨m, _, _, _, _, _, h3, ?_⟩⟩
    rw [canA, hAe, List.filter_map]
    congr 1
    unfold drop1
    apply List.filter_congr
    intro y hy
    simp only [Function.comp, decide_eq_decide]
    constructor
    · intro q e; exact q (by rw [e])
    · intro q e; exact q (hW.pi.idi y hy x hx (by omega))
  · have hnone : byId ids L id = none := by
      unfold byId
      rw [List.find?_eq_none]
      intro x hx
      simp
      intro e
      apply hh
      rw [hAe]
      exact ⟨(ids x, ats x), List.mem_map.2 ⟨x, hx, rfl⟩, e⟩
    rw [hnone, PV_none] at hlook
    refine (cancel_none b m id w hW.mem.cmap hlook).mono ?_
    rintro e w' ⟨rfl, rfl⟩
    refine ⟨by rw [canE, if_neg hh], Fr.refl _ _, ?_⟩
    have : canA A id = A := by
      unfold canA
      apply List.filter_eq_self.2
      intro p hp
      simp
      exact fun e => hh ⟨p, hp, e⟩
    rw [this]; exact hA

theorem wa_turn {w : World} {b : Nat} {O : Nat → Prop} {now : Nat} {A : List (Nat × Nat)} (h : WA w b O now A) (hT : TabW w) (h0 : ¬ O 0) (t : Int) (ht : t < 9223372036854775808) :
    Calls Tryd.prog 38 #[.pointer (some ⟨b, 0, none⟩), .int .i64 t] w fun e w' => e = .returned (.tuple #[]) ∧ ∃ N : Nat, (N : Int) = max (now : Int) t ∧ Fr w w' O ∧ WA w' b O N A := by
  obtain ⟨m, L, ls, us, ids, ats, hW, rfl⟩ := h
  refine (turn_any hW hT h0 t ht).mono ?_
  rintro e w' ⟨rfl, N, hN, h1, h2, ls', us', h3⟩
  exact ⟨rfl, N, hN, h1, m, L, ls', us', ids, ats, h3, rfl⟩
/-- The first of those with the least time, and what is left. -/
def FirstA (A : List (Nat × Nat)) (p : Nat × Nat) (A' : List (Nat × Nat)) : Prop := ∃ l r, A = l ++ p :: r ∧ A' = l ++ r ∧ (∀ q ∈ l, p.2 < q.2) ∧ ∀ q ∈ r, p.2 ≤ q.2
theorem wa_first {w : World} {b : Nat} {O : Nat → Prop} {now : Nat} {A : List (Nat × Nat)} (h : WA w b O now A) :
    Calls Tryd.prog 84 #[.pointer (some ⟨b, 0, none⟩)] w fun e w' => Fr w w' O ∧ ((e = .returned (.tuple #[.int .i64 0, .int .i64 0, .bool false]) ∧ (∀ p ∈ A, now < p.2) ∧ WA w' b O now A) ∨
      ∃ p A', e = .returned (.tuple #[.int .i64 (p.1 : Int), .int .i64 (p.2 : Int), .bool true]) ∧ FirstA A p A' ∧ p.2 ≤ now ∧ WA w' b O now A') := by
  obtain ⟨m, L, ls, us, ids, ats, hW, rfl⟩ := h
  refine (fst_any hW).mono ?_
  rintro e w' ⟨hf, ⟨rfl, h1, h2⟩ | ⟨x, rfl, ⟨l, r, hlr, h1, h2⟩, h3, ls', us', h4⟩⟩
  · refine ⟨hf, .inl ⟨rfl, ?_, m, L, ls, us, ids, ats, h2, rfl⟩⟩
    intro p hp
    obtain ⟨y, hy, rfl⟩ := List.mem_map.1 hp
    exact h1 y hy
  · refine ⟨hf, .inr ⟨(ids x, ats x), (drop1 x L).map (fun x => (ids x, ats x)), rfl, ⟨l.map (fun x => (ids x, ats x)), r.map (fun x => (ids x, ats x)), ?_, ?_, ?_, ?_⟩, h3, m, _, ls', us', ids, ats, h4, rfl⟩⟩
    · rw [hlr, List.map_append, List.map_cons]
    · have hnd := hW.pi.lnd
      rw [hlr] at hnd
      rw [hlr, drop1_of l r x hnd, List.map_append]
    · intro q hq
      obtain ⟨y, hy, rfl⟩ := List.mem_map.1 hq
      exact h1 y hy
    · intro q hq
      obtain ⟨y, hy, rfl⟩ := List.mem_map.1 hq
      exact h2 y hy

def LeastOf (A : List (Nat × Nat)) (v : Int) : Prop := (A = [] ∧ v = -1) ∨ ∃ p ∈ A, v = (p.2 : Int) ∧ ∀ q ∈ A, p.2 ≤ q.2
theorem LeastOf.eq {A : List (Nat × Nat)} {v v' : Int} (h : LeastOf A v) (k : LeastOf A v') : v = v' := by
  rcases h with ⟨rfl, rfl⟩ | ⟨x, hx, rfl, hle⟩ <;> rcases k with ⟨e, rfl⟩ | ⟨y, hy, rfl, hle'⟩
  · rfl
  · simp at hy
  · rw [e] at hx; simp at hx
  · have := hle y hy; have := hle' x hx; omega
theorem wa_next {w : World} {b : Nat} {O : Nat → Prop} {now : Nat} {A : List (Nat × Nat)} (h : WA w b O now A) (hT : TabW w) :
    Calls Tryd.prog 16 #[.pointer (some ⟨b, 0, none⟩)] w fun e w' => ∃ v : Int, e = .returned (.int .i64 v) ∧ LeastOf A v ∧ Below w.heap.size w w' := by
  obtain ⟨m, L, ls, us, ids, ats, hW, rfl⟩ := h
  refine (next_any hW hT).mono ?_
  rintro e w' ⟨v, rfl, hv, hB⟩
  refine ⟨v, rfl, ?_, hB⟩
  rcases hv with ⟨rfl, rfl⟩ | ⟨x, hx, rfl, hle⟩
  · exact .inl ⟨rfl, rfl⟩
  · refine .inr ⟨(ids x, ats x), List.mem_map.2 ⟨x, hx, rfl⟩, rfl, ?_⟩
    intro q hq
    obtain ⟨y, hy, rfl⟩ := List.mem_map.1 hq
    exact hle y hy
theorem wa_len {w : World} {b : Nat} {O : Nat → Prop} {now : Nat} {A : List (Nat × Nat)} (h : WA w b O now A) :
    Calls Tryd.prog 13 #[.pointer (some ⟨b, 0, none⟩)] w fun e w' => e = .returned (.int .i64 (A.length : Int)) ∧ w' = w := by
  obtain ⟨m, L, ls, us, ids, ats, hW, rfl⟩ := h
  rw [List.length_map]
  exact len_any hW

end Go.Proofs.YtogdekjklbbbiaaDoor
