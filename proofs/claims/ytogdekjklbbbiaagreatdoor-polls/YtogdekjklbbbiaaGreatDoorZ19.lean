import Derived.Test.YtogdekjklbbbiaaGreatDoorZ18
import Derived.Maps.OwnSet
set_option maxRecDepth 100000
namespace Go.Proofs.YtogdekjklbbbiaaGreatDoor
set_option linter.unusedSimpArgs false
set_option linter.unusedVariables false

theorem xor_div (a b k : Nat) : (a ^^^ b) / 2 ^ k = (a / 2 ^ k) ^^^ (b / 2 ^ k) := by
  apply Nat.eq_of_testBit_eq
  intro i
  simp [Nat.testBit_div_two_pow, Nat.testBit_xor]

/-- Which level a time stands on. -/
theorem lv_spec {now t : Nat} (h : now < t) : t / 2 ^ (6 * lv now t + 6) = now / 2 ^ (6 * lv now t + 6) ∧ now / 2 ^ (6 * lv now t) < t / 2 ^ (6 * lv now t) := by
  have hx0 : t ^^^ now ≠ 0 := fun e => by have := xor0 e; omega
  have hb := bitLen_pos hx0
  obtain ⟨s1, s2⟩ := bitLen_spec (t ^^^ now)
  have s3 := s2 hx0
  have hl1 : 6 * lv now t ≤ bitLen (t ^^^ now) - 1 := by unfold lv; omega
  have hl2 : bitLen (t ^^^ now) ≤ 6 * lv now t + 6 := by unfold lv; omega
  generalize lv now t = l at *
  constructor
  · apply xor0
    rw [← xor_div]
    exact Nat.div_eq_of_lt (Nat.lt_of_lt_of_le s1 (Nat.pow_le_pow_right (by decide) hl2))
  · have h1 : now / 2 ^ (6 * l) ≤ t / 2 ^ (6 * l) := Nat.div_le_div_right (by omega)
    have h2 : t / 2 ^ (6 * l) ≠ now / 2 ^ (6 * l) := by
      intro e
      have h3 : (t ^^^ now) / 2 ^ (6 * l) = 0 := by rw [xor_div, e, Nat.xor_self]
      have h4 : 2 ^ (6 * l) ≤ t ^^^ now := Nat.le_trans (Nat.pow_le_pow_right (by decide) hl1) s3
      have h5 : 0 < (t ^^^ now) / 2 ^ (6 * l) := Nat.div_pos h4 (Nat.two_pow_pos _)
      omega
    omega
theorem div_more {a b j k : Nat} (h : a / 2 ^ j = b / 2 ^ j) (hjk : j ≤ k) : a / 2 ^ k = b / 2 ^ k := by
  have e : 2 ^ k = 2 ^ j * 2 ^ (k - j) := by rw [← Nat.pow_add]; congr 1; omega
  rw [e, ← Nat.div_div_eq_div_mul, ← Nat.div_div_eq_div_mul, h]
theorem lv_unique {now t l : Nat} (h : now < t) (h1 : t / 2 ^ (6 * l + 6) = now / 2 ^ (6 * l + 6)) (h2 : now / 2 ^ (6 * l) < t / 2 ^ (6 * l)) : lv now t = l := by
  obtain ⟨s1, s2⟩ := lv_spec h
  rcases Nat.lt_trichotomy (lv now t) l with hl | hl | hl
  · have := div_more s1 (show 6 * lv now t + 6 ≤ 6 * l by omega)
    omega
  · exact hl
  · have := div_more h1 (show 6 * l + 6 ≤ 6 * lv now t by omega)
    omega
theorem split64 (t l : Nat) : t / 2 ^ (6 * l) = t / 2 ^ (6 * l + 6) * 64 + sl t l := by
  unfold sl
  rw [Nat.pow_add, ← Nat.div_div_eq_div_mul]
  omega
/-- A slot that something stands in starts behind the wheel's time, and not behind what stands there. -/
theorem st_eq {now t : Nat} (h : now < t) : st now (lv now t) (sl t (lv now t)) = t / 2 ^ (6 * lv now t) * 2 ^ (6 * lv now t) := by
  unfold st
  rw [← (lv_spec h).1, ← split64]
theorem st_le {now t : Nat} (h : now < t) : st now (lv now t) (sl t (lv now t)) ≤ t := by
  rw [st_eq h]; exact Nat.div_mul_le_self _ _
theorem st_gt {now t : Nat} (h : now < t) : now < st now (lv now t) (sl t (lv now t)) := by
  rw [st_eq h]
  have h2 := (lv_spec h).2
  exact (Nat.div_lt_iff_lt_mul (Nat.two_pow_pos _)).1 h2
theorem st_div (now l s : Nat) : st now l s / 2 ^ (6 * l) = now / 2 ^ (6 * l + 6) * 64 + s := by
  unfold st; rw [Nat.mul_div_cancel _ (Nat.two_pow_pos _)]
theorem st_div6 (now l s : Nat) (hs : s < 64) : st now l s / 2 ^ (6 * l + 6) = now / 2 ^ (6 * l + 6) := by
  rw [Nat.pow_add 2 (6 * l) 6, ← Nat.div_div_eq_div_mul, st_div, Nat.pow_add 2 (6 * l) 6]
  omega
/-- What stands in other slots than the first one stays where it is while the wheel turns to that one's start, or to a time ahead of it. -/
theorem home_keep {now n' t l s : Nat} (h : now < t) (hn : now ≤ n') (hs : s < 64) (hst : n' ≤ st now l s) (hlt : l < lv now t ∨ (l = lv now t ∧ s < sl t l) ∨ (l = lv now t ∧ s = sl t l ∧ n' < st now l s)) :
    home n' t = home now t ∧ n' < t := by
  obtain ⟨s1, s2⟩ := lv_spec h
  have e6 : n' / 2 ^ (6 * l + 6) = now / 2 ^ (6 * l + 6) := by
    have a1 : now / 2 ^ (6 * l + 6) ≤ n' / 2 ^ (6 * l + 6) := Nat.div_le_div_right hn
    have a2 : n' / 2 ^ (6 * l + 6) ≤ st now l s / 2 ^ (6 * l + 6) := Nat.div_le_div_right hst
    rw [st_div6 now l s hs] at a2
    omega
  have key : n' / 2 ^ (6 * lv now t) < t / 2 ^ (6 * lv now t) ∧ l ≤ lv now t := by
    rcases hlt with hl | ⟨hl, hss⟩ | ⟨hl, hss, hn'⟩
    · refine ⟨?_, by omega⟩
      rw [div_more e6 (show 6 * l + 6 ≤ 6 * lv now t by omega)]
      exact s2
    · rw [← hl] at s1 s2 ⊢
      refine ⟨?_, Nat.le_refl _⟩
      have a2 : n' / 2 ^ (6 * l) ≤ st now l s / 2 ^ (6 * l) := Nat.div_le_div_right hst
      rw [st_div] at a2
      rw [split64 t l, s1]
      omega
    · rw [← hl] at s1 s2 ⊢
      refine ⟨?_, Nat.le_refl _⟩
      have a2 : n' / 2 ^ (6 * l) < now / 2 ^ (6 * l + 6) * 64 + s := (Nat.div_lt_iff_lt_mul (Nat.two_pow_pos _)).2 hn'
      rw [split64 t l, s1, ← hss]
      exact a2
  have hlt' : n' < t := by
    by_cases hh : n' < t
    · exact hh
    · have := Nat.div_le_div_right (c := 2 ^ (6 * lv now t)) (show t ≤ n' by omega)
      omega
  have e7 : t / 2 ^ (6 * lv now t + 6) = n' / 2 ^ (6 * lv now t + 6) := by
    rw [s1]; exact (div_more e6 (by omega)).symm
  have e8 := lv_unique hlt' e7 key.1
  exact ⟨by rw [home_slot hlt', home_slot h, e8], hlt'⟩
/-- What stands in the first slot leaves it when the wheel turns to its start: it comes to a lower level, or is over. -/
theorem home_lower {now t : Nat} (h : now < t) : home (st now (lv now t) (sl t (lv now t))) t < 1 + 64 * lv now t := by
  have hle := st_le h
  generalize hn' : st now (lv now t) (sl t (lv now t)) = n' at *
  by_cases e : t ≤ n'
  · rw [home_over e]; omega
  · have hlt : n' < t := by omega
    rw [home_slot hlt]
    have h1 : n' / 2 ^ (6 * lv now t) = t / 2 ^ (6 * lv now t) := by
      rw [← hn', st_eq h, Nat.mul_div_cancel _ (Nat.two_pow_pos _)]
    have h2 : lv n' t < lv now t := by
      by_cases hh : lv n' t < lv now t
      · exact hh
      · have a := (lv_spec hlt).2
        have b := div_more h1 (show 6 * lv now t ≤ 6 * lv n' t by omega)
        omega
    have h3 := sl_lt t (lv n' t)
    omega

/-! ### the masks -/
def UB (us : Nat → Nat) (ls : Nat → List Nat) (p : Nat) : Prop := ∀ l, l < 11 → us l < 18446744073709551616 ∧ ∀ s, s < 64 → ((us l).testBit s = true ↔ 1 + 64 * l + s ≠ p ∧ ls (1 + 64 * l + s) ≠ [])

theorem or_lt {a s : Nat} (ha : a < 18446744073709551616) (hs : s < 64) : a ||| 2 ^ s < 18446744073709551616 := by
  have e : (18446744073709551616 : Nat) = 2 ^ 64 := by decide
  rw [e] at ha ⊢
  exact Nat.or_lt_two_pow ha (Nat.pow_lt_pow_right (by decide) hs)
theorem or_bit (a s i : Nat) : (a ||| 2 ^ s).testBit i = (a.testBit i || decide (s = i)) := by rw [Nat.testBit_or, Nat.testBit_two_pow]
theorem and_lt {a b : Nat} (ha : a < 18446744073709551616) : a &&& b < 18446744073709551616 := Nat.lt_of_le_of_lt Nat.and_le_left ha
theorem clr_bit (a s i : Nat) (hi : i < 64) (hs : s < 64) : (a &&& (18446744073709551615 - 2 ^ s)).testBit i = (a.testBit i && !decide (s = i)) := by
  have hp : (2 : Nat) ^ s < 2 ^ 64 := Nat.pow_lt_pow_right (by decide) hs
  have e : 18446744073709551615 - 2 ^ s = 2 ^ 64 - (2 ^ s + 1) := by
    have : (2 : Nat) ^ 64 = 18446744073709551616 := by decide
    omega
  rw [Nat.testBit_and, e, Nat.testBit_two_pow_sub_succ hp, Nat.testBit_two_pow]
  simp [hi]

theorem UB.put {us : Nat → Nat} {ls : Nat → List Nat} {p now t x : Nat} (h : UB us ls p) (hl : lv now t ≤ 10) (hp : now < t → home now t ≠ p) : UB (putU us now t) (upd ls (home now t) (ls (home now t) ++ [x])) p := by
  intro l hll
  obtain ⟨h1, h2⟩ := h l hll
  unfold putU
  by_cases e : t ≤ now
  · rw [if_pos e, home_over e]
    refine ⟨h1, fun s hs => ?_⟩
    rw [upd_other _ _ (by omega)]
    exact h2 s hs
  · have e' : now < t := by omega
    have hp := hp e'
    rw [home_slot e'] at hp ⊢
    rw [if_neg e]
    have hs0 := sl_lt t (lv now t)
    generalize lv now t = l0 at *
    generalize sl t l0 = s0 at *
    by_cases el : l = l0
    · subst el
      rw [upd_same]
      refine ⟨or_lt h1 hs0, fun s hs => ?_⟩
      rw [or_bit]
      by_cases es : s0 = s
      · subst es
        rw [upd_same]
        simp
        omega
      · rw [upd_other _ _ (by omega), ← h2 s hs]
        simp [es]
    · rw [upd_other _ _ el]
      refine ⟨h1, fun s hs => ?_⟩
      rw [upd_other _ _ (by omega)]
      exact h2 s hs
theorem UB.clr {us : Nat → Nat} {ls : Nat → List Nat} (h : UB us ls 0) (l0 s0 : Nat) (hl : l0 < 11) (hs0 : s0 < 64) : UB (upd us l0 (us l0 &&& (18446744073709551615 - 2 ^ s0))) ls (1 + 64 * l0 + s0) := by
  intro l hll
  obtain ⟨h1, h2⟩ := h l hll
  by_cases el : l = l0
  · subst el
    rw [upd_same]
    refine ⟨and_lt h1, fun s hs => ?_⟩
    rw [clr_bit _ _ _ hs hs0]
    have h3 := h2 s hs
    by_cases es : s0 = s
    · subst es; simp
    · simp [es, h3]
      intro _
      omega
  · rw [upd_other _ _ el]
    refine ⟨h1, fun s hs => ?_⟩
    have h3 := h2 s hs
    rw [h3]
    constructor
    · intro q; exact ⟨by omega, q.2⟩
    · intro q; exact ⟨by omega, q.2⟩
theorem UB.pop {us : Nat → Nat} {ls : Nat → List Nat} {p : Nat} (h : UB us ls p) (r : List Nat) : UB us (upd ls p r) p := by
  intro l hll
  obtain ⟨h1, h2⟩ := h l hll
  refine ⟨h1, fun s hs => ?_⟩
  rw [h2 s hs]
  by_cases e : 1 + 64 * l + s = p
  · simp [e]
  · rw [upd_other _ _ e]
theorem UB.done {us : Nat → Nat} {ls : Nat → List Nat} {p : Nat} (h : UB us ls p) (he : ls p = []) : UB us ls 0 := by
  intro l hll
  obtain ⟨h1, h2⟩ := h l hll
  refine ⟨h1, fun s hs => ?_⟩
  rw [h2 s hs]
  constructor
  · intro q; exact ⟨by omega, q.2⟩
  · intro q; exact ⟨fun e => q.2 (e ▸ he), q.2⟩
theorem UB.cut {us : Nat → Nat} {ls : Nat → List Nat} {now t : Nat} (h : UB us ls 0) (hl : lv now t ≤ 10) (r : List Nat) (hne : ls (home now t) ≠ []) : UB (clrU us now t r.isEmpty) (upd ls (home now t) r) 0 := by
  unfold clrU
  by_cases e : t ≤ now
  · rw [if_pos e, home_over e]
    intro l hll
    obtain ⟨h1, h2⟩ := h l hll
    refine ⟨h1, fun s hs => ?_⟩
    rw [upd_other _ _ (by omega)]
    exact h2 s hs
  · have e' : now < t := by omega
    rw [home_slot e'] at hne ⊢
    rw [if_neg e]
    have hs0 := sl_lt t (lv now t)
    cases r with
    | nil =>
      simp only [List.isEmpty_nil, if_true]
      refine ((h.clr (lv now t) (sl t (lv now t)) (by omega) hs0).pop []).done ?_
      rw [upd_same]
    | cons x r =>
      simp only [List.isEmpty_cons]
      intro l hll
      obtain ⟨h1, h2⟩ := h l hll
      refine ⟨h1, fun s hs => ?_⟩
      have h3 := h2 s hs
      by_cases ee : 1 + 64 * l + s = 1 + 64 * lv now t + sl t (lv now t)
      · rw [show (if false = true then upd us (lv now t) (us (lv now t) &&& (18446744073709551615 - 2 ^ sl t (lv now t))) else us) = us from rfl]
        rw [ee, upd_same]
        rw [ee] at h3
        rw [h3]
        simp [hne]
      · rw [upd_other _ _ ee]
        exact h3
end Go.Proofs.YtogdekjklbbbiaaGreatDoor

namespace Go.Proofs.YtogdekjklbbbiaaGreatDoor
open Go.ChangeShapes Go.WideShapes Go.ChangeAt Go.RowKit
set_option linter.unusedSimpArgs false
set_option linter.unusedVariables false

/-- A frame: what is not of O, and was there, is as it was. -/
structure Fr (w w' : World) (O : Nat → Prop) : Prop where
  os : w'.os = w.os
  tape : w'.tape = w.tape
  output : w'.output = w.output
  size : w.heap.size ≤ w'.heap.size
  blk : ∀ k, k < w.heap.size → ¬ O k → w'.heap[k]? = w.heap[k]?
theorem Fr.refl (w : World) (O : Nat → Prop) : Fr w w O := ⟨rfl, rfl, rfl, Nat.le_refl _, fun _ _ _ => rfl⟩
theorem Ch.fr {w w' : World} {O : Nat → Prop} {m : Nat} (h : Ch w w' (fun a _ => O a ∧ a ≠ m)) : Fr w w' O := ⟨h.os, h.tape, h.output, by rw [h.size]; exact Nat.le_refl _, fun k _ hn => h.blk k fun _ q => hn q.1⟩
theorem Fr.trans {a b c : World} {O O' : Nat → Prop} (h : Fr a b O) (k : Fr b c O') (hO : ∀ x, x < a.heap.size → O' x → O x) : Fr a c O :=
  ⟨k.os.trans h.os, k.tape.trans h.tape, k.output.trans h.output, Nat.le_trans h.size k.size, fun x hx hn => (k.blk x (Nat.lt_of_lt_of_le hx h.size) fun q => hn (hO x hx q)).trans (h.blk x hx hn)⟩
theorem Fr.alloc {w w' : World} {O : Nat → Prop} (h : Fr w w' O) (o : Obj) : Fr w (w'.alloc o) O :=
  ⟨h.os, h.tape, h.output, Nat.le_trans h.size (by simp), fun k hk hn => by rw [Below.heap_alloc _ _ _ (Nat.lt_of_lt_of_le hk h.size)]; exact h.blk k hk hn⟩
theorem Fr.drew {w w' : World} {O : Nat → Prop} (h : Fr w w' O) : Fr w w'.drew O := ⟨h.os, h.tape, h.output, h.size, h.blk⟩
theorem Fr.drewN {w w' : World} {O : Nat → Prop} (h : Fr w w' O) (n : Nat) : Fr w (w'.drewN n) O := ⟨h.os, h.tape, h.output, h.size, h.blk⟩
theorem Fr.below {w w' : World} {O : Nat → Prop} {n : Nat} (h : Fr w w' O) (hn : ∀ k, O k → n ≤ k) (hw : n ≤ w.heap.size) : Below n w w' :=
  ⟨h.os, h.tape, h.output, h.size, fun k hk => h.blk k (by omega) fun q => by have := hn k q; omega⟩

def ptrElem : Value → Option (DataW Unit × List MemPlace)
  | .pointer none => some (.nil, [])
  | .pointer (some ⟨x, 0, none⟩) => some (.lit (.int .i64 (x : Int)), [])
  | _ => none
def ptrD (o : Option Nat) : DataW Unit := match o with | none => .nil | some x => .lit (.int .i64 (x : Int))
theorem ptrElem_PV (o : Option Nat) : ptrElem (PV o) = some (ptrD o, []) := by cases o <;> rfl
theorem ptrElem_inv {v : Value} {o : Option Nat} {ps : List MemPlace} (h : ptrElem v = some (ptrD o, ps)) : v = PV o := by
  unfold ptrElem at h
  split at h
  · cases o with
    | none => rfl
    | some x => simp [ptrD] at h
  · rename_i y
    cases o with
    | none => simp [ptrD] at h
    | some x =>
      simp [ptrD] at h
      obtain rfl : y = x := by omega
      rfl
  · simp at h

theorem key3 : Maps.Keyed Tryz.prog 3 := Maps.int_keyed Tryz.underlying3
theorem zero42 (w : World) : (zeroValue 116).run Tryz.prog w = .ok (.pointer none) w := by kernel_rfl

/-- The map's block: for the number i it has f i; it has n entries. -/
def MapOK (w : World) (m : Nat) (f : Int → Option Nat) (n : Nat) : Prop :=
  ∃ D : DataW Unit, w.ownsMap Tryz.prog 3 ptrElem m n D ∧ Maps.size D = n ∧ (∀ i : Int, D.atKey (.int .i64 i) .nil = ptrD (f i) ∧ Maps.has D (.int .i64 i) = (f i).isSome)

theorem MapOK.look {w : World} {m n : Nat} {f : Int → Option Nat} (h : MapOK w m f n) (i : Int) (hi : (Lit.int .i64 i).wf = true) :
    (Instr.lookup 115 (.map (some m)) (.int .i64 i) false).run Tryz.prog w = .ok (PV (f i)) w := by
  obtain ⟨D, h1, h2, h3⟩ := h
  obtain ⟨v, ps, hrun, hv⟩ := h1.lookup key3 Tryz.underlying115 (zero42 w) (ptrElem_PV none) (Maps.keyOf_int_mk Tryz.underlying3 hi)
  rw [hrun]
  have e : D.atKey (.int .i64 i) (ptrD none) = ptrD (f i) := (h3 i).1
  rw [e] at hv
  rw [ptrElem_inv hv]
theorem MapOK.len {w : World} {m n : Nat} {f : Int → Option Nat} (h : MapOK w m f n) (ty : TypeId) : (Builtin.len_ #[115] ty #[.map (some m)]).run Tryz.prog w = .ok (.int .i64 (n : Int)) w := by
  obtain ⟨D, h1, h2, h3⟩ := h
  rw [h1.len Tryz.underlying115 ty, h2]
theorem tight {w : World} {m n : Nat} {D : DataW Unit} (h : w.ownsMap Tryz.prog 3 ptrElem m n D) : w.ownsMap Tryz.prog 3 ptrElem m (Maps.size D) D := by
  obtain ⟨es, clock, hb, F, hs, rfl⟩ := h
  refine ⟨es, clock, hb, F, ?_, rfl⟩
  rw [Maps.size_eq, length_sorted]
  simp
theorem MapOK.put {w : World} {m n : Nat} {f : Int → Option Nat} (h : MapOK w m f n) (hn : n < maxLen) (i : Int) (hi : (Lit.int .i64 i).wf = true) (hf : f i = none) (x : Nat) :
    ∃ w', (Instr.mapUpdate 115 (.map (some m)) (.int .i64 i) (.pointer (some ⟨x, 0, none⟩))).run Tryz.prog w = .ok () w' ∧ MapOK w' m (fun j => if j = i then some x else f j) (n + 1) ∧ w.mapTurned w' m := by
  obtain ⟨D, h1, h2, h3⟩ := h
  obtain ⟨w', hrun, ho, ht⟩ := h1.store key3 Tryz.underlying115 hn (Maps.keyOf_int_mk Tryz.underlying3 hi) (ptrElem_PV (some x))
  have hk : WideAt.IsKeyLit (.int .i64 i) := trivial
  have htd := h1.tidy key3
  have hhas : Maps.has D (.int .i64 i) = false := by rw [(h3 i).2, hf]; rfl
  have hsz : Maps.size (D.put (.int .i64 i) (ptrD (some x))) = n + 1 := by rw [Maps.size_put htd, hhas, h2]; rfl
  refine ⟨w', hrun, ⟨_, by rw [← hsz]; exact tight ho, hsz, fun j => ?_⟩, ht⟩
  dsimp only
  by_cases e : j = i
  · subst e
    rw [if_pos rfl, Maps.atKey_put_same h1.isMap hk, Maps.has_put_same h1.isMap hk]
    exact ⟨rfl, rfl⟩
  · have hne : Lit.int .i64 j ≠ Lit.int .i64 i := fun q => e (by injection q)
    rw [if_neg e, Maps.atKey_put_other hne, Maps.has_put_other hne]
    exact h3 j
theorem MapOK.del {w : World} {m n : Nat} {f : Int → Option Nat} (h : MapOK w m f (n + 1)) (i : Int) (hi : (Lit.int .i64 i).wf = true) (hf : (f i).isSome = true) (ty : TypeId) :
    ∃ w', (Builtin.delete_ #[115, 3] ty #[.map (some m), .int .i64 i]).run Tryz.prog w = .ok (.tuple #[]) w' ∧ MapOK w' m (fun j => if j = i then none else f j) n ∧ w.mapTurned w' m := by
  obtain ⟨D, h1, h2, h3⟩ := h
  obtain ⟨w', hrun, ho, ht⟩ := h1.drop key3 Tryz.underlying115 (Maps.keyOf_int_mk Tryz.underlying3 hi) ty
  have htd := h1.tidy key3
  have hsz : Maps.size (D.del (.int .i64 i)) = n := by
    have := Maps.size_del (k := .int .i64 i) htd
    rw [(h3 i).2, hf, h2] at this
    simpa using this
  refine ⟨w', hrun, ⟨_, by rw [← hsz]; exact tight ho, hsz, fun j => ?_⟩, ht⟩
  dsimp only
  by_cases e : j = i
  · subst e
    rw [if_pos rfl, Maps.atKey_del_same, Maps.has_del_same]
    exact ⟨rfl, rfl⟩
  · have hne : Lit.int .i64 j ≠ Lit.int .i64 i := fun q => e (by injection q)
    rw [if_neg e, Maps.atKey_del_other hne, Maps.has_del_other hne]
    exact h3 j
theorem MapOK.kept {w w' : World} {m n : Nat} {f : Int → Option Nat} (h : MapOK w m f n) (hk : w'.heap[m]? = w.heap[m]?) : MapOK w' m f n := by
  obtain ⟨D, ⟨es, clock, hb, r⟩, h2, h3⟩ := h
  exact ⟨D, ⟨es, clock, by rw [hk]; exact hb, r⟩, h2, h3⟩
theorem MapOK.congr {w : World} {m n : Nat} {f g : Int → Option Nat} (h : MapOK w m f n) (hg : ∀ i, g i = f i) : MapOK w m g n := by
  obtain ⟨D, h1, h2, h3⟩ := h
  exact ⟨D, h1, h2, fun i => by rw [hg]; exact h3 i⟩
theorem MapOK.made (w : World) : MapOK (w.alloc (.map #[] 0)) w.heap.size (fun _ => none) 0 :=
  ⟨.map [], World.ownsMap_made w _ _ _, rfl, fun i => ⟨rfl, rfl⟩⟩

theorem turned_fr {w w' : World} {m : Nat} {O : Nat → Prop} (h : w.mapTurned w' m) (hm : O m) : Fr w w' O ∧ w'.heap.size = w.heap.size ∧ (∀ k, k ≠ m → w'.heap[k]? = w.heap[k]?) ∧ (∀ a, w'.frozen? a = w.frozen? a) := by
  have hf := h.frozen
  obtain ⟨es, clock, es', clock', hb, rfl⟩ := h
  refine ⟨⟨rfl, rfl, rfl, by simp [ChangeMaps.setBlock], fun k _ hn => ?_⟩, by simp [ChangeMaps.setBlock], fun k hk => ?_, hf⟩
  · exact ChangeMaps.heap_setBlock_other hb _ (fun e => hn (e ▸ hm))
  · exact ChangeMaps.heap_setBlock_other hb _ hk
theorem WM.kept2 {w w' : World} {b m : Nat} {O : Nat → Prop} {now : Nat} {ls : Nat → List Nat} {us ids ats : Nat → Nat} (h : WM w b m O now ls us ids ats) (hs : w.heap.size ≤ w'.heap.size) (hk : ∀ k, O k → k ≠ m → w'.heap[k]? = w.heap[k]?) (hf : ∀ k, O k → ∀ o, w'.frozen? ⟨k, o, none⟩ = false) : WM w' b m O now ls us ids ats := by
  have hcell : ∀ k, O k → k ≠ m → ∀ o, w'.cell? ⟨k, o, none⟩ = w.cell? ⟨k, o, none⟩ := fun k hO hm o => World.cell?_of_block (w := w) (hk k hO hm)
  refine ⟨fun k hO => Nat.lt_of_lt_of_le (h.olt k hO) hs, h.ob, h.om, h.bm, h.ox, h.nowlt, by rw [hcell _ h.ob h.bm]; exact h.cnow, by rw [hcell _ h.ob h.bm]; exact h.cmap, ?_, ?_, hf, ?_, h.nd, h.dj⟩
  · intro q hq
    exact (h.cl q hq).congr (hcell _ h.ob h.bm _) (hcell _ h.ob h.bm _) fun x hx => ⟨hcell _ (h.ox q hq x hx).1 (h.ox q hq x hx).2.2 _, hcell _ (h.ox q hq x hx).1 (h.ox q hq x hx).2.2 _⟩
  · intro l hl
    rw [hcell _ h.ob h.bm]; exact h.cu l hl
  · intro q hq x hx
    rw [hcell _ (h.ox q hq x hx).1 (h.ox q hq x hx).2.2, hcell _ (h.ox q hq x hx).1 (h.ox q hq x hx).2.2]; exact h.cw q hq x hx
end Go.Proofs.YtogdekjklbbbiaaGreatDoor
