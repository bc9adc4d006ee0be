import Derived.Test.YtogdekjklbbbiaaGreatDoorSpec
namespace Go.Proofs.YtogdekjklbbbiaaGreatDoor
namespace Pace
/-! ### The document's scan for the flow that comes first -/
def liveA (ck : Nat) (ar at' : Nat → Nat) (x : Nat) : Prop := ar x ≠ 0 ∧ at' x ≤ ck
def leA (at' tn : Nat → Nat) (m x : Nat) : Prop := at' m < at' x ∨ (at' m = at' x ∧ tn m ≤ tn x)
def pick (ck : Nat) (ar at' tn : Nat → Nat) (b : Option Nat) (x : Nat) : Option Nat :=
  if ar x = 0 ∨ ck < at' x then b else match b with
    | none => some x
    | some g => if at' x < at' g ∨ (at' x = at' g ∧ tn x < tn g) then some x else some g
def pickOk (ck : Nat) (ar at' tn : Nat → Nat) (b : Option Nat) (S : Nat → Prop) : Prop :=
  match b with
  | none => ∀ x, S x → ¬ liveA ck ar at' x
  | some m => S m ∧ liveA ck ar at' m ∧ ∀ x, S x → liveA ck ar at' x → leA at' tn m x
theorem pick_step {ck : Nat} {ar at' tn : Nat → Nat} {b : Option Nat} {S : Nat → Prop} (h : pickOk ck ar at' tn b S) (x : Nat) : pickOk ck ar at' tn (pick ck ar at' tn b x) (fun z => S z ∨ z = x) := by
  unfold pick
  split
  · rename_i hd
    have hx : ¬ liveA ck ar at' x := fun q => by rcases hd with e | e; exact q.1 e; exact absurd q.2 (by omega)
    cases b with
    | none =>
      intro z hz
      rcases hz with e | rfl
      · exact h z e
      · exact hx
    | some m =>
      refine ⟨.inl h.1, h.2.1, fun z hz hl => ?_⟩
      rcases hz with e | rfl
      · exact h.2.2 z e hl
      · exact absurd hl hx
  · rename_i hd
    have hx : liveA ck ar at' x := ⟨fun e => hd (.inl e), by omega⟩
    cases b with
    | none =>
      refine ⟨.inr rfl, hx, fun z hz hl => ?_⟩
      rcases hz with e | rfl
      · exact absurd hl (h z e)
      · exact .inr ⟨rfl, Nat.le_refl _⟩
    | some m =>
      obtain ⟨h1, h2, h3⟩ := h
      simp only
      split
      · rename_i hc
        refine ⟨.inr rfl, hx, fun z hz hl => ?_⟩
        rcases hz with e | rfl
        · have := h3 z e hl
          unfold leA at this ⊢
          omega
        · exact .inr ⟨rfl, Nat.le_refl _⟩
      · rename_i hc
        refine ⟨.inl h1, h2, fun z hz hl => ?_⟩
        rcases hz with e | rfl
        · exact h3 z e hl
        · unfold leA; omega
theorem pick_fold {ck : Nat} {ar at' tn : Nat → Nat} (xs : List Nat) {b : Option Nat} {S : Nat → Prop} (h : pickOk ck ar at' tn b S) : pickOk ck ar at' tn (xs.foldl (pick ck ar at' tn) b) (fun z => S z ∨ z ∈ xs) := by
  induction xs generalizing b S with
  | nil =>
    have e : (fun z => S z ∨ z ∈ ([] : List Nat)) = S := by funext z; simp
    rw [e]; exact h
  | cons x xs ih =>
    have := ih (pick_step h x)
    have e : (fun z => (S z ∨ z = x) ∨ z ∈ xs) = (fun z => S z ∨ z ∈ x :: xs) := by funext z; simp [or_assoc]
    rw [e] at this
    exact this
theorem best_first {tn : Nat → Nat} {A : List Ar} (hp : A.Pairwise fun a b => tn a.num < tn b.num) {a : Ar} (h : best A = some a) : ∀ b ∈ A, b.at' = a.at' → tn a.num ≤ tn b.num := by
  induction A generalizing a with
  | nil => intro b hb; cases hb
  | cons x l ih =>
    obtain ⟨h1, h2⟩ := List.pairwise_cons.1 hp
    unfold best at h
    cases hb : best l with
    | none =>
      rw [hb] at h
      have : x = a := by simpa using h
      subst this
      have hl := best_none.1 hb
      subst hl
      intro b hb' _
      rcases List.mem_cons.1 hb' with rfl | q
      · exact Nat.le_refl _
      · cases q
    | some c =>
      rw [hb] at h
      simp only at h
      split at h
      · rename_i hc
        have : c = a := by simpa using h
        subst this
        intro b hb' e
        rcases List.mem_cons.1 hb' with rfl | q
        · omega
        · exact ih h2 hb b q e
      · have : x = a := by simpa using h
        subst this
        intro b hb' e
        rcases List.mem_cons.1 hb' with rfl | q
        · exact Nat.le_refl _
        · exact Nat.le_of_lt (h1 b q)
/-- The scan finds what is due. -/
theorem due_scan {s : St} {ar at' tn : Nat → Nat} (h1 : ∀ a ∈ s.A, ar a.num = a.k ∧ at' a.num = a.at') (hk : ∀ a ∈ s.A, 0 < a.k) (h2 : ∀ f ∈ s.fl, (∀ a ∈ s.A, a.num ≠ f.num) → ar f.num = 0) (h3 : s.A.Pairwise fun a b => tn a.num < tn b.num) (h4 : ∀ a ∈ s.A, a.num ∈ s.fl.map (·.num)) :
    (s.fl.map (·.num)).foldl (pick s.clock ar at' tn) none = (due s).map (·.num) := by
  have hf := pick_fold (ck := s.clock) (ar := ar) (at' := at') (tn := tn) (s.fl.map (·.num)) (b := none) (S := fun _ => False) (fun x q => q.elim)
  have hlive : ∀ a ∈ s.A, liveA s.clock ar at' a.num ↔ a.at' ≤ s.clock := fun a ha => by
    obtain ⟨e1, e2⟩ := h1 a ha
    have := hk a ha
    unfold liveA
    rw [e1, e2]
    constructor
    · exact fun q => q.2
    · exact fun q => ⟨by omega, q⟩
  have hof : ∀ x ∈ s.fl.map (·.num), liveA s.clock ar at' x → ∃ a ∈ s.A, a.num = x := fun x hx hl => by
    obtain ⟨f, hf, rfl⟩ := List.mem_map.1 hx
    refine Classical.byContradiction fun hn => hl.1 (h2 f hf fun a ha e => hn ⟨a, ha, e⟩)
  generalize hr : (s.fl.map (·.num)).foldl (pick s.clock ar at' tn) none = r at hf
  cases hd : due s with
  | none =>
    have hno := due_none hd
    cases r with
    | none => rfl
    | some m =>
      obtain ⟨q1, q2, _⟩ := hf
      rcases q1 with q1 | q1
      · exact q1.elim
      · obtain ⟨a, ha, e⟩ := hof m q1 q2
        rw [← e] at q2
        have := (hlive a ha).1 q2
        have := hno a ha
        omega
  | some a =>
    obtain ⟨hb, hck⟩ := due_some hd
    obtain ⟨ha, hmin⟩ := best_some hb
    have hla := (hlive a ha).2 hck
    cases r with
    | none => exact absurd hla (hf a.num (.inr (h4 a ha)))
    | some m =>
      obtain ⟨q1, q2, q3⟩ := hf
      rcases q1 with q1 | q1
      · exact q1.elim
      · obtain ⟨c, hc, e⟩ := hof m q1 q2
        subst e
        have hle := q3 a.num (.inr (h4 a ha)) hla
        have hm := hmin c hc
        obtain ⟨c1, c2⟩ := h1 c hc
        obtain ⟨a1, a2⟩ := h1 a ha
        unfold leA at hle
        rw [c2, a2] at hle
        rcases hle with q | ⟨q, q'⟩
        · omega
        · have := best_first h3 hb c hc q
          have ht : tn a.num = tn c.num := by omega
          by_cases hac : c.num = a.num
          · rw [hac]; rfl
          · exfalso
            have : ∀ {l : List Ar}, l.Pairwise (fun a b => tn a.num < tn b.num) → a ∈ l → c ∈ l → a.num ≠ c.num → tn a.num ≠ tn c.num := by
              intro l hp h5 h6 hne
              induction l with
              | nil => cases h5
              | cons x l ih =>
                obtain ⟨p1, p2⟩ := List.pairwise_cons.1 hp
                rcases List.mem_cons.1 h5 with e5 | e5
                · rcases List.mem_cons.1 h6 with e6 | e6
                  · rw [e5, e6] at hne; exact absurd rfl hne
                  · have := p1 c e6; rw [← e5] at this; omega
                · rcases List.mem_cons.1 h6 with e6 | e6
                  · have := p1 a e5; rw [← e6] at this; omega
                  · exact ih p2 e5 e6
            exact this h3 ha hc (fun e => hac e.symm) ht
/-! ### The document's scan for the next instant -/
def pickN (ar at' : Nat → Nat) (n : Int) (x : Nat) : Int := if 0 < ar x ∧ (n < 0 ∨ (at' x : Int) < n) then (at' x : Int) else n
def pickNOk (ar at' : Nat → Nat) (n : Int) (S : Nat → Prop) : Prop := (n = -1 ∧ ∀ x, S x → ar x = 0) ∨ ∃ m, S m ∧ 0 < ar m ∧ n = (at' m : Int) ∧ ∀ x, S x → 0 < ar x → at' m ≤ at' x
theorem pickN_step {ar at' : Nat → Nat} {n : Int} {S : Nat → Prop} (h : pickNOk ar at' n S) (x : Nat) : pickNOk ar at' (pickN ar at' n x) (fun z => S z ∨ z = x) := by
  unfold pickN
  split
  · rename_i hc
    refine .inr ⟨x, .inr rfl, hc.1, rfl, fun z hz ha => ?_⟩
    rcases hz with e | rfl
    · rcases h with ⟨q1, q2⟩ | ⟨m, q1, q2, q3, q4⟩
      · have := q2 z e; omega
      · have := q4 z e ha; omega
    · exact Nat.le_refl _
  · rename_i hc
    rcases h with ⟨q1, q2⟩ | ⟨m, q1, q2, q3, q4⟩
    · refine .inl ⟨q1, fun z hz => ?_⟩
      rcases hz with e | rfl
      · exact q2 z e
      · omega
    · refine .inr ⟨m, .inl q1, q2, q3, fun z hz ha => ?_⟩
      rcases hz with e | rfl
      · exact q4 z e ha
      · omega
theorem pickN_fold {ar at' : Nat → Nat} (xs : List Nat) {n : Int} {S : Nat → Prop} (h : pickNOk ar at' n S) : pickNOk ar at' (xs.foldl (pickN ar at') n) (fun z => S z ∨ z ∈ xs) := by
  induction xs generalizing n S with
  | nil =>
    have e : (fun z => S z ∨ z ∈ ([] : List Nat)) = S := by funext z; simp
    rw [e]; exact h
  | cons x xs ih =>
    have := ih (pickN_step h x)
    have e : (fun z => (S z ∨ z = x) ∨ z ∈ xs) = (fun z => S z ∨ z ∈ x :: xs) := by funext z; simp [or_assoc]
    rw [e] at this
    exact this
theorem next_scan {s : St} {ar at' : Nat → Nat} (h1 : ∀ a ∈ s.A, ar a.num = a.k ∧ at' a.num = a.at') (hk : ∀ a ∈ s.A, 0 < a.k) (h2 : ∀ f ∈ s.fl, (∀ a ∈ s.A, a.num ≠ f.num) → ar f.num = 0) (h4 : ∀ a ∈ s.A, a.num ∈ s.fl.map (·.num)) {v : Int} (hv : (s.fl.map (·.num)).foldl (pickN ar at') (-1) = v) :
    (s.A = [] ∧ v = -1) ∨ ∃ a ∈ s.A, v = (a.at' : Int) ∧ ∀ z ∈ s.A, a.at' ≤ z.at' := by
  have hf := pickN_fold (ar := ar) (at' := at') (s.fl.map (·.num)) (n := -1) (S := fun _ => False) (.inl ⟨rfl, fun x q => q.elim⟩)
  rw [hv] at hf
  rcases hf with ⟨q1, q2⟩ | ⟨m, q1, q2, q3, q4⟩
  · refine .inl ⟨?_, q1⟩
    cases hA : s.A with
    | nil => rfl
    | cons a l =>
      have ha : a ∈ s.A := by rw [hA]; exact List.mem_cons_self ..
      have := q2 a.num (.inr (h4 a ha))
      have := (h1 a ha).1
      have := hk a ha
      omega
  · rcases q1 with q1 | q1
    · exact q1.elim
    · obtain ⟨f, hf, rfl⟩ := List.mem_map.1 q1
      obtain ⟨a, ha, e⟩ : ∃ a ∈ s.A, a.num = f.num := Classical.byContradiction fun hn => by
        have := h2 f hf fun a ha e => hn ⟨a, ha, e⟩
        omega
      refine .inr ⟨a, ha, ?_, fun z hz => ?_⟩
      · rw [q3, ← e, (h1 a ha).2]
      · have := q4 z.num (.inr (h4 z hz)) (by have := (h1 z hz).1; have := hk z hz; omega)
        rw [← e, (h1 a ha).2, (h1 z hz).2] at this
        exact this
/-- Commands as Set leaves them. -/
def SetsOk (P : List Cmd) : Prop := ∀ f r b l, .set f r b l ∈ P → l = b
theorem SetsOk.nil : SetsOk [] := fun f r b l h => by cases h
theorem SetsOk.snoc {P : List Cmd} (h : SetsOk P) {c : Cmd} (hc : ∀ f r b l, c = .set f r b l → l = b) : SetsOk (P ++ [c]) := fun f r b l hm => by
  rcases List.mem_append.1 hm with q | q
  · exact h f r b l q
  · have : Cmd.set f r b l = c := by simpa using q
    exact hc f r b l this.symm
theorem SetsOk.filter {P : List Cmd} (h : SetsOk P) (q : Cmd → Bool) : SetsOk (P.filter q) := fun f r b l hm => h f r b l (List.mem_filter.1 hm).1
theorem waits_le {s : St} {P : List Cmd} (h : PI s P) (hf : s.fl.length ≤ 8) : waits s.fl ≤ 64 := by
  have key : ∀ l : List Fl, (∀ x ∈ l, x.pk.length ≤ 8) → waits l ≤ 8 * l.length := by
    intro l
    induction l with
    | nil => intro _; simp [waits]
    | cons x l ih =>
      intro hl
      have h1 := ih fun y hy => hl y (List.mem_cons_of_mem _ hy)
      have h2 := hl x (List.mem_cons_self ..)
      simp only [waits, List.map_cons, List.sum_cons, List.length_cons] at h1 ⊢
      omega
  have := key s.fl fun x hx => (h.wf.F x hx).few
  omega
end Pace
end Go.Proofs.YtogdekjklbbbiaaGreatDoor
