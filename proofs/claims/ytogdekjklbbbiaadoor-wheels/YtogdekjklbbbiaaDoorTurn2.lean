import Derived.Test.YtogdekjklbbbiaaDoorTurn1
set_option maxRecDepth 100000
namespace Go.Proofs.YtogdekjklbbbiaaDoor
open Go.ChangeShapes Go.WideShapes Go.ChangeAt Go.RowKit
set_option linter.unusedSimpArgs false
set_option linter.unusedVariables false

/-- A wheel and the document's, side by side. -/
structure Pair (w : World) (b d : Nat) (O Q : Nat → Prop) (n : Nat) (A : List (Nat × Nat)) (n' : Nat) (A' : List (Nat × Nat)) : Prop where
  wa : WA w b O n A
  ra : RA w d Q n' A'
  dj : ∀ k, O k → ¬ Q k
theorem Pair.first {w w' : World} {b d : Nat} {O Q O1 : Nat → Prop} {n n' n1 : Nat} {A A' A1 : List (Nat × Nat)} (h : Pair w b d O Q n A n' A') (hf : Fr w w' O) (hw : WA w' b O1 n1 A1) (ho : ∀ k, O1 k → O k ∨ w.heap.size ≤ k) : Pair w' b d O1 Q n1 A1 n' A' :=
  ⟨hw, h.ra.kept hf fun k q q' => h.dj k q' q, fun k hk hq => (ho k hk).elim (fun q => h.dj k q hq) fun q => by have := h.ra.olt hq; omega⟩
theorem Pair.second {w w' : World} {b d : Nat} {O Q Q1 : Nat → Prop} {n n' n1 : Nat} {A A' A1 : List (Nat × Nat)} (h : Pair w b d O Q n A n' A') (hf : Fr w w' Q) (hw : RA w' d Q1 n1 A1) (ho : ∀ k, Q1 k → Q k ∨ w.heap.size ≤ k) : Pair w' b d O Q1 n A n1 A1 :=
  ⟨h.wa.kept hf h.dj, hw, fun k hk hq => (ho k hq).elim (h.dj k hk) fun q => by have := h.wa.olt hk; omega⟩
theorem Pair.keep {w w' : World} {b d : Nat} {O Q X : Nat → Prop} {n n' : Nat} {A A' : List (Nat × Nat)} (h : Pair w b d O Q n A n' A') (hf : Fr w w' X) (h1 : ∀ k, O k → ¬ X k) (h2 : ∀ k, Q k → ¬ X k) : Pair w' b d O Q n A n' A' := ⟨h.wa.kept hf h1, h.ra.kept hf h2, h.dj⟩
theorem alloc_fr (w : World) (o : Obj) (X : Nat → Prop) : Fr w (w.alloc o) X := (Fr.refl w X).alloc o
theorem box_cell (w : World) (c : Array Value) (t : TypeId) {w' : World} {X : Nat → Prop} (hf : Fr (w.alloc (.cells c t)) w' X) (hn : ¬ X w.heap.size) (i : Nat) : w'.cell? ⟨w.heap.size, i, none⟩ = c[i]? := by
  rw [World.cell?_of_block (a := ⟨w.heap.size, i, none⟩) (hf.blk w.heap.size (by simp) hn)]
  exact cellN w c t i
theorem WA.nodup {w : World} {b : Nat} {O : Nat → Prop} {now : Nat} {A : List (Nat × Nat)} (h : WA w b O now A) : (A.map Prod.fst).Nodup := by
  obtain ⟨m, L, ls, us, ids, ats, hW, rfl⟩ := h
  rw [List.map_map]
  have h1 := hW.pi.lnd
  have h2 := hW.pi.idi
  clear hW
  induction L with
  | nil => exact List.nodup_nil
  | cons x r ih =>
    rw [List.map_cons, List.nodup_cons]
    obtain ⟨q1, q2⟩ := List.nodup_cons.1 h1
    refine ⟨fun hm => ?_, ih q2 fun a ha c hc e => h2 a (by simp [ha]) c (by simp [hc]) e⟩
    obtain ⟨y, hy, e⟩ := List.mem_map.1 hm
    have := h2 y (by simp [hy]) x (by simp) e
    exact q1 (this ▸ hy)

def Out (w : World) (b d : Nat) (O Q : Nat → Prop) (A : List (Nat × Nat)) (w' : World) : Prop :=
  Fr w w' (fun k => O k ∨ Q k) ∧ ∃ O' Q' n A', Pair w' b d O' Q' n A' n A' ∧ A'.length ≤ A.length + 1 ∧ (∀ k, O' k → O k ∨ w.heap.size ≤ k) ∧ (∀ k, Q' k → Q k ∨ w.heap.size ≤ k)

theorem fr_or {w w1 w2 : World} {O Q X Y : Nat → Prop} (h1 : Fr w w1 X) (h2 : Fr w1 w2 Y) (hX : ∀ k, k < w.heap.size → X k → O k ∨ Q k) (hY : ∀ k, k < w.heap.size → Y k → O k ∨ Q k) : Fr w w2 (fun k => O k ∨ Q k) :=
  ⟨h2.os.trans h1.os, h2.tape.trans h1.tape, h2.output.trans h1.output, Nat.le_trans h1.size h2.size, fun k hk hn => (h2.blk k (Nat.lt_of_lt_of_le hk h1.size) fun q => hn (hY k hk q)).trans (h1.blk k hk fun q => hn (hX k hk q))⟩

theorem turned1_any {w : World} {b d : Nat} {O Q : Nat → Prop} {n : Nat} {A : List (Nat × Nat)} (h : Pair w b d O Q n A n A) (hl : A.length < 8796093022208) (x y z : Int) (hx : x < 9223372036854775808) (hy : y < 9223372036854775808) :
    Calls Tryd.prog 10 #[.pointer (some ⟨b, 0, none⟩), .pointer (some ⟨d, 0, none⟩), .agg #[.int .i64 1, .int .i64 x, .int .i64 y, .int .i64 z]] w fun e w' => e = .returned (.bool true) ∧ Out w b d O Q A w' := by
  have hf0 : Fr w (w.alloc (.cells #[.int .i64 1, .int .i64 x, .int .i64 y, .int .i64 z] 30)) (fun _ => False) := alloc_fr _ _ _
  have h0 := h.keep hf0 (fun _ _ q => q) (fun _ _ q => q)
  have hs0 : (w.alloc (.cells #[.int .i64 1, .int .i64 x, .int .i64 y, .int .i64 z] 30)).heap.size = w.heap.size + 1 := by simp
  refine turned1 b d x y z (insE A x y) w (fun w1 => Fr w w1 O ∧ ∃ O1, Pair w1 b d O1 Q n (insA A x y) n A ∧ ∀ k, O1 k → O k ∨ w.heap.size ≤ k) _ ((wa_insert h0.wa x y hx hy (by unfold maxLen; omega)).mono ?_) ?_
  · rintro e w1 ⟨rfl, h1, O1, h2, h3⟩
    have hbx : ¬ O w.heap.size := fun q => by have := h.wa.olt q; omega
    refine ⟨rfl, box_cell w _ 30 h1 hbx 1, box_cell w _ 30 h1 hbx 2, ⟨h1.os.trans hf0.os, h1.tape.trans hf0.tape, h1.output.trans hf0.output, Nat.le_trans hf0.size h1.size, fun k hk hn => ?_⟩, O1, h0.first h1 h2 h3, fun k hk => (h3 k hk).imp id fun q => by omega⟩
    exact (h1.blk k (by omega) hn).trans (hf0.blk k hk fun q => q)
  · rintro w1 ⟨hf1, O1, hP, ho⟩
    refine (ra_insert hP.ra hl x y).mono ?_
    rintro e w2 ⟨rfl, g1, Q2, g2, g3⟩
    refine ⟨rfl, fr_or hf1 g1 (fun k _ q => .inl q) (fun k _ q => .inr q), O1, Q2, n, _, hP.second g1 g2 g3, ?_, ho, fun k hk => (g3 k hk).imp id fun q => Nat.le_trans hf1.size q⟩
    rw [insA_len]
    split <;> omega

theorem turned2_any {w : World} {b d : Nat} {O Q : Nat → Prop} {n : Nat} {A : List (Nat × Nat)} (h : Pair w b d O Q n A n A) (hl : A.length < 8796093022208) (x y z : Int) (hx0 : -9223372036854775808 ≤ x) (hx : x < 9223372036854775808) :
    Calls Tryd.prog 10 #[.pointer (some ⟨b, 0, none⟩), .pointer (some ⟨d, 0, none⟩), .agg #[.int .i64 2, .int .i64 x, .int .i64 y, .int .i64 z]] w fun e w' => e = .returned (.bool true) ∧ Out w b d O Q A w' := by
  have hf0 : Fr w (w.alloc (.cells #[.int .i64 2, .int .i64 x, .int .i64 y, .int .i64 z] 30)) (fun _ => False) := alloc_fr _ _ _
  have h0 := h.keep hf0 (fun _ _ q => q) (fun _ _ q => q)
  have hs0 : (w.alloc (.cells #[.int .i64 2, .int .i64 x, .int .i64 y, .int .i64 z] 30)).heap.size = w.heap.size + 1 := by simp
  refine turned2 b d x y z (canE A x) w (fun w1 => Fr w w1 O ∧ Pair w1 b d O Q n (canA A x) n A) _ ((wa_cancel h0.wa x hx0 hx).mono ?_) ?_
  · rintro e w1 ⟨rfl, h1, h2⟩
    have hbx : ¬ O w.heap.size := fun q => by have := h.wa.olt q; omega
    refine ⟨rfl, box_cell w _ 30 h1 hbx 1, ⟨h1.os.trans hf0.os, h1.tape.trans hf0.tape, h1.output.trans hf0.output, Nat.le_trans hf0.size h1.size, fun k hk hn => ?_⟩, h0.first h1 h2 (fun k q => .inl q)⟩
    exact (h1.blk k (by omega) hn).trans (hf0.blk k hk fun q => q)
  · rintro w1 ⟨hf1, hP⟩
    refine (ra_cancel hP.ra hl h.wa.nodup x).mono ?_
    rintro e w2 ⟨rfl, g1, Q2, g2, g3⟩
    refine ⟨rfl, fr_or hf1 g1 (fun k _ q => .inl q) (fun k _ q => .inr q), O, Q2, n, _, hP.second g1 g2 g3, ?_, fun k q => .inl q, fun k hk => (g3 k hk).imp id fun q => Nat.le_trans hf1.size q⟩
    have := List.length_filter_le (fun p : Nat × Nat => decide ((p.1 : Int) ≠ x)) A
    unfold canA
    omega

theorem turned4_any {w : World} {b d : Nat} {O Q : Nat → Prop} {n : Nat} {A : List (Nat × Nat)} (h : Pair w b d O Q n A n A) (hl : A.length < 8796093022208) (hT : TabW w) (h00 : 0 < w.heap.size) (k x y z : Int) (k1 : k ≠ 1) (k2 : k ≠ 2) (k3 : k ≠ 3) :
    Calls Tryd.prog 10 #[.pointer (some ⟨b, 0, none⟩), .pointer (some ⟨d, 0, none⟩), .agg #[.int .i64 k, .int .i64 x, .int .i64 y, .int .i64 z]] w fun e w' => e = .returned (.bool true) ∧ Out w b d O Q A w' := by
  have hf0 : Fr w (w.alloc (.cells #[.int .i64 k, .int .i64 x, .int .i64 y, .int .i64 z] 30)) (fun _ => False) := alloc_fr _ _ _
  have h0 := h.keep hf0 (fun _ _ q => q) (fun _ _ q => q)
  have hT0 : TabW (w.alloc (.cells #[.int .i64 k, .int .i64 x, .int .i64 y, .int .i64 z] 30)) := hT.fr hf0 (fun q => q) h00
  obtain ⟨v0, hv0⟩ := h.ra
  obtain ⟨a, cap, hve, _, _⟩ := row_pr hv0.row
  refine turned4 b d A.length cap a k x y z w (LeastOf A) (fun w1 => Fr w w1 (fun _ => False)) (fun w1 => Fr w w1 (fun _ => False)) _ (by rw [beq_eq_false_iff_ne]; exact k1) (by rw [beq_eq_false_iff_ne]; exact k2) (by rw [beq_eq_false_iff_ne]; exact k3) (fun v v' q q' => q.eq q') ((wa_next h0.wa hT0).mono ?_) ?_ ?_
  · rintro e w1 ⟨v, rfl, hv, hB⟩
    exact ⟨v, rfl, hv, Fr.trans hf0 (below_fr hB) (fun _ _ q => q)⟩
  · intro w1 hf1
    refine (ra_next (h.keep hf1 (fun _ _ q => q) (fun _ _ q => q)).ra hl).mono ?_
    rintro e w2 ⟨v, rfl, hv, hC⟩
    exact ⟨v, rfl, hv, ch_fr hf1 hC (fun _ _ q _ => q)⟩
  · intro w1 hf1
    have hP := h.keep hf1 (fun _ _ q => q) (fun _ _ q => q)
    refine ⟨wa_len hP.wa, ?_, ⟨hf1.os, hf1.tape, hf1.output, hf1.size, fun k hk _ => hf1.blk k hk fun q => q⟩, O, Q, n, A, hP, by omega, fun k q => .inl q, fun k q => .inl q⟩
    have := (hv0.kept (w' := w1) hf1.size fun k q => hf1.blk k (hv0.olt k q) fun q => q).c1
    rw [this, hve]
end Go.Proofs.YtogdekjklbbbiaaDoor
