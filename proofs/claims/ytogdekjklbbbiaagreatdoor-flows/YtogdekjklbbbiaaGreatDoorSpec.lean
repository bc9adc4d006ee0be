namespace Go.Proofs.YtogdekjklbbbiaaGreatDoor
namespace Pace
/-- Credit is counted in parts. -/
noncomputable def parts : Nat := Classical.choose (⟨1000000000, rfl⟩ : ∃ n : Nat, n = 1000000000)
theorem parts_eq : parts = 1000000000 := Classical.choose_spec (⟨1000000000, rfl⟩ : ∃ n : Nat, n = 1000000000)
def acc (c r m t : Nat) : Nat := min m (c + r * t)
def til (c r n : Nat) : Nat := if n ≤ c then 0 else (n - c + (r - 1)) / r

theorem acc_le (c r m t : Nat) : acc c r m t ≤ m := Nat.min_le_left _ _
theorem acc_zero {c r m : Nat} (h : c ≤ m) : acc c r m 0 = c := by simp [acc]; omega
theorem acc_acc (c r m s t : Nat) : acc (acc c r m s) r m t = acc c r m (s + t) := by
  unfold acc
  rw [Nat.mul_add]
  omega
theorem acc_mono {c c' r m t : Nat} (h : c ≤ c') : acc c r m t ≤ acc c' r m t := by unfold acc; omega

theorem til_le {c r n t : Nat} (hr : 0 < r) : til c r n ≤ t ↔ n ≤ c + r * t := by
  unfold til
  split
  · constructor
    · intro _; have := Nat.zero_le (r * t); omega
    · intro _; exact Nat.zero_le _
  · rename_i h
    have key : (n - c + (r - 1)) / r ≤ t ↔ n - c ≤ r * t := by
      constructor
      · intro h1
        have h2 : (n - c + (r - 1)) < r * (t + 1) := by
          have := Nat.lt_mul_div_succ (n - c + (r - 1)) hr
          exact Nat.lt_of_lt_of_le this (Nat.mul_le_mul_left r (by omega))
        rw [Nat.mul_add] at h2
        omega
      · intro h1
        have : (n - c + (r - 1)) / r < t + 1 := by
          rw [Nat.div_lt_iff_lt_mul hr, Nat.mul_comm, Nat.mul_add]
          omega
        omega
    omega

/-- A flow; cr: its credit at the clock. -/
structure Fl where
  num : Nat
  rate : Nat
  burst : Nat
  cr : Nat
  pk : List (Int × Nat)
  adm : Nat
deriving DecidableEq

/-- That a flow is armed: its number, its instant, how many packets its batch has. -/
structure Ar where
  num : Nat
  at' : Nat
  k : Nat
deriving DecidableEq

structure St where
  q : Nat
  clock : Nat
  fl : List Fl
  A : List Ar

inductive Cmd where
  | add (f r b : Nat)
  | set (f r b l : Nat)
  | enq (f : Nat)
deriving DecidableEq

def Cmd.flow : Cmd → Nat
  | .add f _ _ => f
  | .set f _ _ _ => f
  | .enq f => f

/-- How many packets go into a batch: the first ones that are together at most 'room'. -/
def fit : List (Int × Nat) → Nat → Nat
  | [], _ => 0
  | p :: ps, room => if p.2 ≤ room then fit ps (room - p.2) + 1 else 0
def bytes (l : List (Int × Nat)) : Nat := (l.map (·.2)).sum

def Fl.size (q : Nat) (f : Fl) : Nat := fit (f.pk.take f.adm) (min q f.burst)
noncomputable def Fl.instant (q clock : Nat) (f : Fl) : Nat := clock + til f.cr f.rate (bytes (f.pk.take (f.size q)) * parts)

def upd (l : List Fl) (n : Nat) (g : Fl → Fl) : List Fl := l.map fun f => if f.num = n then g f else f
def look (l : List Fl) (n : Nat) : Option Fl := l.find? (·.num = n)
def off (A : List Ar) (n : Nat) : List Ar := A.filter (·.num ≠ n)

/-- The flow n is armed, anew if it is armed already. -/
noncomputable def arm (s : St) (n : Nat) : St :=
  match look s.fl n with
  | none => s
  | some f =>
    if 0 < f.adm ∧ 0 < f.rate then { s with A := off s.A n ++ [⟨n, f.instant s.q s.clock, f.size s.q⟩] }
    else { s with A := off s.A n }

noncomputable def tick (s : St) (now : Nat) : St :=
  { s with clock := max s.clock now, fl := s.fl.map fun f => { f with cr := acc f.cr f.rate (f.burst * parts) (max s.clock now - s.clock) } }

noncomputable def adm1 (s : St) : Cmd → St
  | .add f r b => { s with fl := upd s.fl f fun x => { x with rate := r, burst := b, cr := b * parts } }
  | .set f r b l => arm { s with fl := upd s.fl f fun x => { x with rate := r, burst := b, cr := min x.cr (l * parts) } } f
  | .enq f =>
    match look s.fl f with
    | none => s
    | some x => if x.adm = 0 then arm { s with fl := upd s.fl f fun x => { x with adm := x.adm + 1 } } f else { s with fl := upd s.fl f fun x => { x with adm := x.adm + 1 } }
noncomputable def admit (s : St) (cs : List Cmd) : St := cs.foldl adm1 s

/-- Of those that are due the first one: the least instant, of these the one that was armed first. -/
def best : List Ar → Option Ar
  | [] => none
  | a :: l => match best l with
    | none => some a
    | some b => if b.at' < a.at' then some b else some a
def due (s : St) : Option Ar := (best s.A).filter (·.at' ≤ s.clock)

/-- What a flow is behind a send. -/
noncomputable def sentFl (k : Nat) (x : Fl) : Fl := { x with cr := x.cr - bytes (x.pk.take k) * parts, pk := x.pk.drop k, adm := x.adm - k }
noncomputable def send (s : St) (a : Ar) : (Nat × Nat × List (Int × Nat)) × St :=
  ((a.num, a.at', ((look s.fl a.num).map (·.pk.take a.k)).getD []),
   arm { s with fl := upd s.fl a.num (sentFl a.k), A := off s.A a.num } a.num)
noncomputable def rel : Nat → St → List (Nat × Nat × List (Int × Nat)) × St
  | 0, s => ([], s)
  | n + 1, s => match due s with
    | none => ([], s)
    | some a => ((send s a).1 :: (rel n (send s a).2).1, (rel n (send s a).2).2)

/-! ### A Set that another one of its flow follows -/

theorem arm_fl (s : St) (n : Nat) : (arm s n).fl = s.fl := by unfold arm; split; rfl; split <;> rfl
theorem arm_q (s : St) (n : Nat) : (arm s n).q = s.q := by unfold arm; split; rfl; split <;> rfl
theorem arm_clock (s : St) (n : Nat) : (arm s n).clock = s.clock := by unfold arm; split; rfl; split <;> rfl
theorem off_off (A : List Ar) (n m : Nat) : off (off A n) m = off (off A m) n := by
  unfold off
  rw [List.filter_filter, List.filter_filter]
  congr 1
  funext x
  rw [Bool.and_comm]
theorem off_idem (A : List Ar) (n : Nat) : off (off A n) n = off A n := by simp [off]
theorem off_append (A B : List Ar) (n : Nat) : off (A ++ B) n = off A n ++ off B n := by simp [off]

inductive All2 {α β : Type} (R : α → β → Prop) : List α → List β → Prop
  | nil : All2 R [] []
  | cons {a : α} {b : β} {l : List α} {m : List β} : R a b → All2 R l m → All2 R (a :: l) (b :: m)
theorem All2.map {α β γ δ : Type} {R : α → β → Prop} {T : γ → δ → Prop} {u : α → γ} {v : β → δ} {l : List α} {m : List β} (h : All2 R l m) (hu : ∀ a b, R a b → T (u a) (v b)) : All2 T (l.map u) (m.map v) := by
  induction h with
  | nil => exact .nil
  | cons q _ ih => exact .cons (hu _ _ q) ih
theorem All2.eq {α : Type} {l m : List α} (h : All2 (fun a b => a = b) l m) : l = m := by
  induction h with
  | nil => rfl
  | cons q _ ih => rw [q, ih]
theorem All2.refl {α : Type} {R : α → α → Prop} (l : List α) (h : ∀ x ∈ l, R x x) : All2 R l l := by
  induction l with
  | nil => exact .nil
  | cons x l ih => exact .cons (h x (List.mem_cons_self ..)) (ih fun y hy => h y (List.mem_cons_of_mem _ hy))
theorem All2.mono {α β : Type} {R T : α → β → Prop} {l : List α} {m : List β} (h : All2 R l m) (hu : ∀ a b, R a b → T a b) : All2 T l m := by
  induction h with
  | nil => exact .nil
  | cons q _ ih => exact .cons (hu _ _ q) ih
theorem All2.look {R : Fl → Fl → Prop} {l m : List Fl} (h : All2 R l m) (hn : ∀ x y, R x y → y.num = x.num) (n : Nat) : (look l n = none ∧ look m n = none) ∨ ∃ x y, look l n = some x ∧ look m n = some y ∧ R x y := by
  induction h with
  | nil => exact .inl ⟨rfl, rfl⟩
  | @cons a b l m q _ ih =>
    have hb := hn _ _ q
    simp only [Pace.look, List.find?_cons, hb] at ih ⊢
    split
    · exact .inr ⟨a, b, rfl, rfl, q⟩
    · exact ih

theorem look_map {l : List Fl} {g : Fl → Fl} (hg : ∀ x ∈ l, (g x).num = x.num) (n : Nat) : look (l.map g) n = (look l n).map g := by
  induction l with
  | nil => rfl
  | cons x l ih =>
    have ih' := ih fun y hy => hg y (List.mem_cons_of_mem _ hy)
    have hx := hg x (List.mem_cons_self ..)
    simp only [look, List.map_cons, List.find?_cons, hx] at ih' ⊢
    split
    · rfl
    · exact ih'
theorem look_some {l : List Fl} {n : Nat} {x : Fl} (h : look l n = some x) : x ∈ l ∧ x.num = n := by
  refine ⟨List.mem_of_find?_eq_some h, ?_⟩
  have := List.find?_some h
  simpa using this
theorem look_none {l : List Fl} {n : Nat} (h : ∀ x ∈ l, x.num ≠ n) : look l n = none := by
  simpa [look] using h

def NearF (f : Nat) (m : Option Nat) (x y : Fl) : Prop :=
  y.num = x.num ∧ (x.num ≠ f → y = x) ∧ y.pk = x.pk ∧ y.adm = x.adm ∧ match m with | none => y.cr = x.cr | some l => x.num = f → x.cr = min y.cr (l * parts)
/-- Two states that differ in what the flow f has and in whether it is armed. -/
structure Sim (f : Nat) (m : Option Nat) (s t : St) : Prop where
  q : s.q = t.q
  clock : s.clock = t.clock
  fl : All2 (NearF f m) s.fl t.fl
  A : off s.A f = off t.A f
  A0 : look s.fl f = none → s.A = t.A

theorem arm_off (s : St) (n : Nat) (h : look s.fl n ≠ none) : off (arm s n).A n = off s.A n := by
  unfold arm
  split
  · rename_i q; exact absurd q h
  · split
    · rw [off_append, off_idem]; simp [off]
    · exact off_idem _ _

theorem Sim.arm {f : Nat} {m : Option Nat} {s t : St} (h : Sim f m s t) (n : Nat) : Sim f m (arm s n) (arm t n) := by
  refine ⟨by rw [arm_q, arm_q]; exact h.q, by rw [arm_clock, arm_clock]; exact h.clock, by rw [arm_fl, arm_fl]; exact h.fl, ?_, ?_⟩
  · by_cases hn : n = f
    · subst hn
      rcases h.fl.look (fun x y q => q.1) n with ⟨a, b⟩ | ⟨x, y, a, b, _⟩
      · simp only [Pace.arm, a, b, h.A]
      · rw [arm_off s n (by rw [a]; simp), arm_off t n (by rw [b]; simp), h.A]
    · rcases h.fl.look (fun x y q => q.1) n with ⟨a, b⟩ | ⟨x, y, a, b, r⟩
      · simp only [Pace.arm, a, b, h.A]
      · obtain rfl : y = x := r.2.1 (by rw [(look_some a).2]; exact hn)
        unfold Pace.arm
        rw [a, b]
        simp only
        rw [h.q, h.clock]
        split
        · simp only [off_append, off_off _ n f, h.A]
        · simp only [off_off _ n f, h.A]
  · intro h0
    rw [arm_fl] at h0
    have hA := h.A0 h0
    rcases h.fl.look (fun x y q => q.1) n with ⟨a, b⟩ | ⟨x, y, a, b, r⟩
    · simp only [Pace.arm, a, b, hA]
    · obtain rfl : y = x := r.2.1 (by rw [(look_some a).2]; intro e; rw [e, h0] at a; cases a)
      unfold Pace.arm
      rw [a, b]
      simp only
      rw [h.q, h.clock, hA]
      split <;> rfl

theorem look_upd (l : List Fl) (n m : Nat) {u : Fl → Fl} (hu : ∀ x, (u x).num = x.num) : look (upd l m u) n = (look l n).map fun x => if x.num = m then u x else x := by
  induction l with
  | nil => rfl
  | cons x l ih =>
    have hx : (if x.num = m then u x else x).num = x.num := by split; exact hu x; rfl
    simp only [look, upd, List.map_cons, List.find?_cons, hx] at ih ⊢
    split
    · rfl
    · exact ih

theorem Sim.upd {f : Nat} {m m' : Option Nat} {s t : St} (h : Sim f m s t) (n : Nat) (u v : Fl → Fl) (hn : ∀ x, (u x).num = x.num) (h1 : ∀ x y, x.num = n → NearF f m x y → NearF f m' (u x) (v y)) (h2 : ∀ x y, x.num ≠ n → NearF f m x y → NearF f m' x y) :
    Sim f m' { s with fl := Pace.upd s.fl n u } { t with fl := Pace.upd t.fl n v } := by
  refine ⟨h.q, h.clock, h.fl.map fun x y q => ?_, h.A, fun h0 => h.A0 ?_⟩
  · by_cases hx : x.num = n
    · rw [if_pos hx, if_pos (q.1.trans hx)]; exact h1 x y hx q
    · rw [if_neg hx, if_neg (by rw [q.1]; exact hx)]; exact h2 x y hx q
  · rw [look_upd _ _ _ hn] at h0
    simpa using h0

/-- A step that touches both alike. -/
theorem Sim.adm1 {f : Nat} {m : Option Nat} {s t : St} (h : Sim f m s t) (c : Cmd) (hc : (∀ r b l, c ≠ .set f r b l) ∧ (m ≠ none → ∀ r b, c ≠ .add f r b)) : Sim f m (adm1 s c) (adm1 t c) := by
  cases c with
  | add g r b =>
    refine h.upd g _ _ (fun _ => rfl) (fun x y hx q => ?_) (fun x y hx q => q)
    obtain ⟨q1, q2, q3, q4, q5⟩ := q
    refine ⟨q1, fun hf => ?_, q3, q4, ?_⟩
    · have := q2 hf; subst this; rfl
    · cases m with
      | none => rfl
      | some l => exact fun hf => absurd rfl (by have := hc.2 (by simp) r b; rw [show g = f from hx.symm.trans hf] at this; exact this)
  | set g r b l =>
    have hg : g ≠ f := fun e => hc.1 r b l (by rw [e])
    refine Sim.arm (h.upd g (fun x => { x with rate := r, burst := b, cr := min x.cr (l * parts) }) (fun x => { x with rate := r, burst := b, cr := min x.cr (l * parts) }) (fun _ => rfl) (fun x y hx q => ?_) (fun x y hx q => q)) g
    obtain ⟨q1, q2, q3, q4, q5⟩ := q
    have := q2 (by omega)
    subst this
    exact ⟨rfl, fun _ => rfl, rfl, rfl, by cases m with | none => rfl | some l => exact fun hf => absurd (hx.symm.trans hf) hg⟩
  | enq g =>
    have hu : Sim f m { s with fl := Pace.upd s.fl g fun x => { x with adm := x.adm + 1 } } { t with fl := Pace.upd t.fl g fun x => { x with adm := x.adm + 1 } } := by
      refine h.upd g _ _ (fun _ => rfl) (fun x y hx q => ?_) (fun x y hx q => q)
      obtain ⟨q1, q2, q3, q4, q5⟩ := q
      exact ⟨q1, fun hf => by have := q2 hf; subst this; rfl, q3, by simp only [q4], q5⟩
    unfold Pace.adm1
    rcases h.fl.look (fun x y q => q.1) g with ⟨a, b⟩ | ⟨x, y, a, b, r⟩
    · simp only [a, b]; exact h
    · simp only [a, b, r.2.2.2.1]
      split
      · exact hu.arm g
      · exact hu

def leastOf (l : Nat) : Option Nat → Nat
  | none => l
  | some k => min l k
theorem min_parts (c k l : Nat) : min (min c (k * parts)) (l * parts) = min c (min l k * parts) := by
  rw [parts_eq]
  omega
/-- A Set that is left out on one side. -/
theorem Sim.set_left {f : Nat} {m : Option Nat} {s t : St} (h : Sim f m s t) (r b l : Nat) : Sim f (some (leastOf l m)) (Pace.adm1 s (.set f r b l)) t := by
  have h1 : Sim f (some (leastOf l m)) { s with fl := Pace.upd s.fl f fun x => { x with rate := r, burst := b, cr := min x.cr (l * parts) } } { t with fl := Pace.upd t.fl f fun x => x } := by
    refine h.upd f _ _ (fun _ => rfl) (fun x y hx q => ?_) (fun x y hx q => ?_)
    · obtain ⟨q1, q2, q3, q4, q5⟩ := q
      refine ⟨q1, fun hf => absurd hx hf, q3, q4, fun _ => ?_⟩
      cases m with
      | none => simp only [leastOf] at q5 ⊢; rw [q5]
      | some k => simp only [leastOf]; rw [q5 hx, min_parts]
    · obtain ⟨q1, q2, q3, q4, q5⟩ := q
      exact ⟨q1, q2, q3, q4, fun hf => absurd hf hx⟩
  have e : (Pace.upd t.fl f fun x => x) = t.fl := by simp [Pace.upd]
  rw [e] at h1
  have hl0 : look (Pace.upd s.fl f fun x => { x with rate := r, burst := b, cr := min x.cr (l * parts) }) f = none → look s.fl f = none := by
    intro q; rw [look_upd] at q
    · simpa using q
    · intro x; rfl
  refine ⟨?_, ?_, ?_, ?_, ?_⟩
  · show (Pace.arm _ f).q = _
    rw [arm_q]; exact h1.q
  · show (Pace.arm _ f).clock = _
    rw [arm_clock]; exact h1.clock
  · show All2 _ (Pace.arm _ f).fl _
    rw [arm_fl]; exact h1.fl
  · show off (Pace.arm _ f).A f = _
    by_cases hl : look (Pace.upd s.fl f fun x => { x with rate := r, burst := b, cr := min x.cr (l * parts) }) f = none
    · simp only [Pace.arm, hl]; exact h1.A
    · rw [arm_off _ f hl]; exact h1.A
  · show look (Pace.arm _ f).fl f = none → (Pace.arm _ f).A = _
    rw [arm_fl]
    intro hl
    simp only [Pace.arm, hl]
    exact h.A0 (hl0 hl)
/-- The last Set makes both the same. -/
theorem Sim.set_both {f : Nat} {m : Option Nat} {s t : St} (h : Sim f m s t) (r b l : Nat) : Pace.adm1 s (.set f r b l) = Pace.adm1 t (.set f r b (leastOf l m)) := by
  have hfl : (Pace.upd s.fl f fun x => { x with rate := r, burst := b, cr := min x.cr (l * parts) }) = Pace.upd t.fl f fun x => { x with rate := r, burst := b, cr := min x.cr (leastOf l m * parts) } := by
    refine All2.eq (h.fl.map fun x y q => ?_)
    obtain ⟨q1, q2, q3, q4, q5⟩ := q
    by_cases hx : x.num = f
    · rw [if_pos hx, if_pos (q1.trans hx)]
      have e1 : min x.cr (l * parts) = min y.cr (leastOf l m * parts) := by
        cases m with
        | none => simp only [leastOf] at q5 ⊢; rw [q5]
        | some k => simp only [leastOf]; rw [q5 hx, min_parts]
      show Fl.mk _ _ _ _ _ _ = Fl.mk _ _ _ _ _ _
      rw [e1, q1, q3, q4]
    · rw [if_neg hx, if_neg (by rw [q1]; exact hx)]
      exact (q2 hx).symm
  have hl0 : look (Pace.upd s.fl f fun x => { x with rate := r, burst := b, cr := min x.cr (l * parts) }) f = none → look s.fl f = none := by
    intro q; rw [look_upd] at q
    · simpa using q
    · intro x; rfl
  unfold Pace.adm1
  simp only
  unfold Pace.arm
  simp only
  rw [hfl] at hl0 ⊢
  cases hk : look (Pace.upd t.fl f fun x => { x with rate := r, burst := b, cr := min x.cr (leastOf l m * parts) }) f with
  | none => simp only [h.q, h.clock, h.A0 (hl0 hk)]
  | some x => simp only [h.q, h.clock, h.A]

/-- The least of the Sets of f. -/
def leastIn (f : Nat) : Option Nat → List Cmd → Option Nat
  | m, [] => m
  | m, .set g _ _ l :: cs => leastIn f (if g = f then some (leastOf l m) else m) cs
  | m, _ :: cs => leastIn f m cs
def isSet (f : Nat) : Cmd → Bool
  | .set g _ _ _ => g == f
  | _ => false
/-- No Add of a flow stands behind something of that flow. -/
def AddFirst (cs : List Cmd) : Prop := cs.Pairwise fun c d => ∀ f r b, d = .add f r b → c.flow ≠ f

theorem Sim.run {f : Nat} {m : Option Nat} {s t : St} (cs : List Cmd) (h : Sim f m s t) (ha : AddFirst cs) (hm : m ≠ none → ∀ c ∈ cs, ∀ r b, c ≠ .add f r b) : Sim f (leastIn f m cs) (admit s cs) (admit t (cs.filter fun c => !isSet f c)) := by
  induction cs generalizing m s t with
  | nil => exact h
  | cons c cs ih =>
    have ha' := List.pairwise_cons.1 ha
    by_cases hs : isSet f c = true
    · obtain ⟨r, b, l, rfl⟩ : ∃ r b l, c = .set f r b l := by
        cases c with
        | set g r b l => simp [isSet] at hs; exact ⟨r, b, l, by rw [hs]⟩
        | add _ _ _ => simp [isSet] at hs
        | enq _ => simp [isSet] at hs
      have := ih (h.set_left r b l) ha'.2 fun _ c hc r' b' e => ha'.1 c hc f r' b' e rfl
      simpa [admit, leastIn, hs] using this
    · have hns : ∀ r b l, c ≠ .set f r b l := by
        intro r b l e; subst e; simp [isSet] at hs
      have := ih (h.adm1 c ⟨hns, fun q r b => hm q c (List.mem_cons_self ..) r b⟩) ha'.2 fun q d hd => hm q d (List.mem_cons_of_mem _ hd)
      have e : leastIn f m (c :: cs) = leastIn f m cs := by
        cases c with
        | set g r b l =>
          simp only [leastIn]
          rw [if_neg (fun e => hns r b l (by rw [e]))]
        | add _ _ _ => rfl
        | enq _ => rfl
      rw [e]
      simpa [admit, hs] using this

theorem admit_append (s : St) (a b : List Cmd) : admit s (a ++ b) = admit (admit s a) b := by simp [admit]
/-- Sets of a flow that another one follows may be left out, but for the least of their bursts. -/
theorem admit_set (s : St) (cs : List Cmd) (ha : AddFirst cs) (f r b l : Nat) :
    admit s (cs ++ [.set f r b l]) = admit s (cs.filter (fun c => !isSet f c) ++ [.set f r b (leastOf l (leastIn f none cs))]) := by
  rw [admit_append, admit_append]
  have h0 : Sim f none s s := ⟨rfl, rfl, All2.refl _ fun x _ => ⟨rfl, fun _ => rfl, rfl, rfl, rfl⟩, rfl, fun _ => rfl⟩
  exact (h0.run cs ha (fun q => absurd rfl q)).set_both r b l
/-- What is asked of a flow that is not there does nothing. -/
theorem admit_gone (s : St) (cs : List Cmd) (f : Nat) (h : ∀ x ∈ s.fl, x.num ≠ f) : admit s cs = admit s (cs.filter (·.flow ≠ f)) := by
  induction cs generalizing s with
  | nil => rfl
  | cons c cs ih =>
    have hl : look s.fl f = none := look_none h
    have hu : ∀ u : Fl → Fl, upd s.fl f u = s.fl := fun u => by
      unfold upd
      conv => rhs; rw [← List.map_id s.fl]
      refine List.map_congr_left fun x hx => ?_
      rw [if_neg (h x hx)]; rfl
    have hk : ∀ x ∈ (adm1 s c).fl, x.num ≠ f := by
      have key : ∀ (g : Nat) (u : Fl → Fl), (∀ x, (u x).num = x.num) → ∀ x ∈ upd s.fl g u, x.num ≠ f := by
        intro g u hu x hx
        obtain ⟨y, hy, rfl⟩ := List.mem_map.1 hx
        split
        · rw [hu]; exact h y hy
        · exact h y hy
      cases c with
      | add g r b => exact key g _ fun _ => rfl
      | set g r b l => show ∀ x ∈ (arm _ g).fl, _; rw [arm_fl]; exact key g _ fun _ => rfl
      | enq g =>
        unfold adm1
        simp only
        split
        · exact h
        · split
          · rw [arm_fl]; exact key g _ fun _ => rfl
          · exact key g _ fun _ => rfl
    by_cases hc : c.flow = f
    · have e : adm1 s c = s := by
        cases c with
        | add g r b => obtain rfl : g = f := hc; simp only [adm1, hu]
        | set g r b l => obtain rfl : g = f := hc; simp only [adm1, hu, arm, hl]
        | enq g => obtain rfl : g = f := hc; simp only [adm1, hl]
      have := ih s h
      simp [admit, hc, e] at this ⊢
      exact this
    · have := ih _ hk
      simp [admit, hc] at this ⊢
      exact this

/-! ### What holds at all times -/
structure FOk (q : Nat) (x : Fl) : Prop where
  lens : ∀ p ∈ x.pk, 1 ≤ p.2 ∧ p.2 ≤ 1500
  few : x.pk.length ≤ 8
  adm : x.adm ≤ x.pk.length
  rate : x.rate ≤ 1000000000
  cr : x.cr ≤ x.burst * parts
  burst : (x.burst = 0 ∧ x.rate = 0 ∧ x.adm = 0) ∨ (1500 ≤ x.burst ∧ x.burst ≤ 1000000)
structure AOk (q clock : Nat) (a : Ar) (x : Fl) : Prop where
  pos : 0 < a.k
  le : a.k ≤ x.adm
  rate : 0 < x.rate
  room : bytes (x.pk.take a.k) ≤ min q x.burst
  got : bytes (x.pk.take a.k) * parts ≤ x.cr + x.rate * (a.at' - clock)
structure WF (s : St) : Prop where
  q : 1500 ≤ s.q ∧ s.q ≤ 1000000
  clock : s.clock ≤ 4000000000000000000
  nums : (s.fl.map (·.num)).Nodup
  F : ∀ x ∈ s.fl, FOk s.q x
  anum : (s.A.map (·.num)).Nodup
  A : ∀ a ∈ s.A, ∃ x, look s.fl a.num = some x ∧ AOk s.q s.clock a x
  at' : ∀ a ∈ s.A, a.at' ≤ s.clock + 1000000000000000

theorem fit_le (l : List (Int × Nat)) (r : Nat) : fit l r ≤ l.length := by
  induction l generalizing r with
  | nil => exact Nat.le_refl _
  | cons p l ih =>
    unfold fit
    split
    · have := ih (r - p.2); simp; omega
    · exact Nat.zero_le _
theorem fit_bytes (l : List (Int × Nat)) (r : Nat) : bytes (l.take (fit l r)) ≤ r := by
  induction l generalizing r with
  | nil => simp [fit, bytes]
  | cons p l ih =>
    unfold fit
    split
    · rename_i h
      have := ih (r - p.2)
      simp [bytes] at this ⊢
      omega
    · simp [bytes]
theorem fit_pos {l : List (Int × Nat)} {r : Nat} (h : 0 < l.length) (hl : ∀ p ∈ l, p.2 ≤ r) : 0 < fit l r := by
  cases l with
  | nil => simp at h
  | cons p l =>
    unfold fit
    rw [if_pos (hl p (List.mem_cons_self ..))]
    omega
theorem til_need {c r n : Nat} (hr : 0 < r) : til c r n ≤ n := by
  rw [til_le hr]
  have := Nat.le_mul_of_pos_left n hr
  omega
theorem til_got {c r n : Nat} (hr : 0 < r) : n ≤ c + r * til c r n := (til_le hr).1 (Nat.le_refl _)

theorem Fl.size_le (q : Nat) (x : Fl) : x.size q ≤ x.adm := by
  have := fit_le (x.pk.take x.adm) (min q x.burst)
  unfold Fl.size
  simp at this
  omega
theorem Fl.size_room (q : Nat) (x : Fl) : bytes (x.pk.take (x.size q)) ≤ min q x.burst := by
  have h := fit_bytes (x.pk.take x.adm) (min q x.burst)
  have h1 := x.size_le q
  unfold Fl.size at h1 ⊢
  rw [List.take_take, Nat.min_eq_left h1] at h
  exact h
theorem FOk.arms {q clock : Nat} {x : Fl} (h : FOk q x) (hq : 1500 ≤ q) (ha : 0 < x.adm) (hr : 0 < x.rate) : AOk q clock ⟨x.num, x.instant q clock, x.size q⟩ x := by
  have hb : 1500 ≤ x.burst := by rcases h.burst with ⟨_, _, e⟩ | ⟨e, _⟩ <;> omega
  refine ⟨?_, x.size_le q, hr, x.size_room q, ?_⟩
  · refine fit_pos (by have := h.adm; simp; omega) fun p hp => ?_
    have := (h.lens p (List.mem_of_mem_take hp)).2
    omega
  · have := til_got (c := x.cr) (n := bytes (x.pk.take (x.size q)) * parts) hr
    unfold Fl.instant
    rw [Nat.add_sub_cancel_left]
    exact this
theorem FOk.instant_le {q clock : Nat} {x : Fl} (h : FOk q x) (hr : 0 < x.rate) : x.instant q clock ≤ clock + 1000000000000000 := by
  have h1 := til_need (c := x.cr) (n := bytes (x.pk.take (x.size q)) * parts) hr
  have h2 := x.size_room q
  have hb : x.burst ≤ 1000000 := by rcases h.burst with ⟨e, _, _⟩ | ⟨_, e⟩ <;> omega
  unfold Fl.instant
  rw [parts_eq] at h1 ⊢
  omega

theorem mem_off {A : List Ar} {n : Nat} {a : Ar} : a ∈ off A n ↔ a ∈ A ∧ a.num ≠ n := by simp [off]
theorem off_nodup {A : List Ar} (n : Nat) (h : (A.map (·.num)).Nodup) : ((off A n).map (·.num)).Nodup :=
  List.Nodup.sublist (List.Sublist.map _ List.filter_sublist) h

theorem WF.arm {s : St} (h : WF s) (n : Nat) : WF (Pace.arm s n) := by
  unfold Pace.arm
  split
  · exact h
  · rename_i x hx
    obtain ⟨hm, hn⟩ := look_some hx
    split
    · rename_i hc
      refine ⟨h.q, h.clock, h.nums, h.F, ?_, ?_, ?_⟩
      · simp only [List.map_append, List.map_cons, List.map_nil]
        rw [List.nodup_append]
        refine ⟨off_nodup n h.anum, by simp, fun a ha b hb => ?_⟩
        simp at hb
        subst hb
        obtain ⟨y, hy, rfl⟩ := List.mem_map.1 ha
        exact (mem_off.1 hy).2
      · intro a ha
        rcases List.mem_append.1 ha with ha | ha
        · exact h.A a (mem_off.1 ha).1
        · simp at ha
          subst ha
          subst hn
          exact ⟨x, hx, (h.F x hm).arms h.q.1 hc.1 hc.2⟩
      · intro a ha
        rcases List.mem_append.1 ha with ha | ha
        · exact h.at' a (mem_off.1 ha).1
        · simp at ha
          subst ha
          exact (h.F x hm).instant_le hc.2
    · exact ⟨h.q, h.clock, h.nums, h.F, off_nodup n h.anum, fun a ha => h.A a (mem_off.1 ha).1, fun a ha => h.at' a (mem_off.1 ha).1⟩

theorem tick_sum {B C M D E R : Nat} (h1 : B ≤ C + R) (h2 : B ≤ M) (h3 : R ≤ D + E) : B ≤ min M (C + D) + E := by omega
theorem WF.tick {s : St} (h : WF s) (now : Nat) (hn : now ≤ 4000000000000000000) : WF (Pace.tick s now) := by
  have hc := h.clock
  have hmx : max s.clock now ≤ 4000000000000000000 := Nat.max_le.2 ⟨hc, hn⟩
  refine ⟨h.q, hmx, ?_, ?_, h.anum, ?_, fun a ha => ?_⟩
  · show ((s.fl.map _).map _).Nodup
    rw [List.map_map]
    exact h.nums
  · intro x hx
    obtain ⟨y, hy, rfl⟩ := List.mem_map.1 hx
    have hF := h.F y hy
    exact ⟨hF.lens, hF.few, hF.adm, hF.rate, acc_le _ _ _ _, hF.burst⟩
  · intro a ha
    obtain ⟨x, hx, hA⟩ := h.A a ha
    have hl : look (Pace.tick s now).fl a.num = some { x with cr := acc x.cr x.rate (x.burst * parts) (max s.clock now - s.clock) } := by
      have := look_map (l := s.fl) (g := fun f => { f with cr := acc f.cr f.rate (f.burst * parts) (max s.clock now - s.clock) }) (fun _ _ => rfl) a.num
      rw [hx] at this
      exact this
    refine ⟨_, hl, hA.pos, hA.le, hA.rate, hA.room, ?_⟩
    show bytes (x.pk.take a.k) * parts ≤ acc _ _ _ _ + x.rate * (a.at' - max s.clock now)
    have h1 := hA.got
    have h2 := hA.room
    have h3 : bytes (x.pk.take a.k) * parts ≤ x.burst * parts := Nat.mul_le_mul_right _ (by omega)
    have h4 : x.rate * (a.at' - s.clock) ≤ x.rate * (max s.clock now - s.clock) + x.rate * (a.at' - max s.clock now) := by
      rw [← Nat.mul_add]
      exact Nat.mul_le_mul_left _ (by omega)
    exact tick_sum h1 h3 h4
  · have := h.at' a ha
    exact Nat.le_trans this (Nat.add_le_add_right (Nat.le_max_left _ _) _)

theorem upd_nums (l : List Fl) (n : Nat) {u : Fl → Fl} (hu : ∀ x, (u x).num = x.num) : (upd l n u).map (·.num) = l.map (·.num) := by
  unfold upd
  rw [List.map_map]
  refine List.map_congr_left fun x _ => ?_
  show (if x.num = n then u x else x).num = x.num
  split
  · exact hu x
  · rfl
theorem mem_upd {l : List Fl} {n : Nat} {u : Fl → Fl} {y : Fl} (h : y ∈ upd l n u) : ∃ x ∈ l, (x.num = n ∧ y = u x) ∨ (x.num ≠ n ∧ y = x) := by
  obtain ⟨x, hx, rfl⟩ := List.mem_map.1 h
  by_cases e : x.num = n
  · exact ⟨x, hx, .inl ⟨e, by rw [if_pos e]⟩⟩
  · exact ⟨x, hx, .inr ⟨e, by rw [if_neg e]⟩⟩
theorem look_of_mem {l : List Fl} (h : (l.map (·.num)).Nodup) {x : Fl} (hx : x ∈ l) : look l x.num = some x := by
  induction l with
  | nil => cases hx
  | cons y l ih =>
    simp only [List.map_cons, List.nodup_cons] at h
    rcases List.mem_cons.1 hx with rfl | hx
    · simp [look]
    · have hne : y.num ≠ x.num := fun e => h.1 (List.mem_map.2 ⟨x, hx, e.symm⟩)
      have := ih h.2 hx
      simp only [look, List.find?_cons] at this ⊢
      simp only [hne, decide_false]
      exact this

theorem WF.upd {s : St} (h : WF s) (n : Nat) (u : Fl → Fl) (hu : ∀ x, (u x).num = x.num) (hF : ∀ x ∈ s.fl, x.num = n → FOk s.q (u x)) (hA : ∀ a ∈ s.A, ∀ x ∈ s.fl, a.num = n → x.num = n → AOk s.q s.clock a x → AOk s.q s.clock a (u x)) : WF { s with fl := Pace.upd s.fl n u } := by
  refine ⟨h.q, h.clock, by show ((Pace.upd s.fl n u).map _).Nodup; rw [upd_nums _ _ hu]; exact h.nums, ?_, h.anum, ?_, h.at'⟩
  · intro y hy
    obtain ⟨x, hx, ⟨e, rfl⟩ | ⟨e, rfl⟩⟩ := mem_upd hy
    · exact hF x hx e
    · exact h.F _ hx
  · intro a ha
    obtain ⟨x, hx, ho⟩ := h.A a ha
    obtain ⟨hm, hn⟩ := look_some hx
    show ∃ x, look (Pace.upd s.fl n u) a.num = some x ∧ _
    rw [look_upd _ _ _ hu, hx]
    by_cases e : x.num = n
    · exact ⟨u x, by simp [e], hA a ha x hm (hn.symm.trans e) e ho⟩
    · exact ⟨x, by simp [e], ho⟩
theorem WF.off {s : St} (h : WF s) (n : Nat) : WF { s with A := Pace.off s.A n } :=
  ⟨h.q, h.clock, h.nums, h.F, off_nodup n h.anum, fun a ha => h.A a (mem_off.1 ha).1, fun a ha => h.at' a (mem_off.1 ha).1⟩
theorem arm_offed {s : St} {n : Nat} (h : look s.fl n ≠ none) : arm { s with A := off s.A n } n = arm s n := by
  unfold arm
  simp only [off_idem]
  split
  · rename_i q; exact absurd q h
  · rfl

def Cmd.ok : Cmd → Prop
  | .add _ r b => r ≤ 1000000000 ∧ 1500 ≤ b ∧ b ≤ 1000000
  | .set _ r b l => r ≤ 1000000000 ∧ 1500 ≤ b ∧ b ≤ 1000000 ∧ 1500 ≤ l ∧ l ≤ b
  | .enq _ => True
def cnt (f : Nat) (cs : List Cmd) : Nat := cs.countP (· == .enq f)
/-- What holds of what waits to be admitted. -/
structure PI (s : St) (cs : List Cmd) : Prop where
  wf : WF s
  ok : ∀ c ∈ cs, c.ok
  live : ∀ c ∈ cs, ∃ x ∈ s.fl, x.num = c.flow
  cnt : ∀ x ∈ s.fl, x.adm + Pace.cnt x.num cs = x.pk.length
  fst : ∀ x ∈ s.fl, x.burst = 0 → ∃ r b, cs.find? (·.flow == x.num) = some (.add x.num r b)
  add : ∀ x ∈ s.fl, x.burst ≠ 0 → ∀ r b, .add x.num r b ∉ cs
  af : AddFirst cs

theorem cnt_cons_ne {f : Nat} {c : Cmd} {cs : List Cmd} (h : c ≠ .enq f) : cnt f (c :: cs) = cnt f cs := by
  simp [cnt, h]
theorem cnt_cons_eq (f : Nat) (cs : List Cmd) : cnt f (.enq f :: cs) = cnt f cs + 1 := by
  simp [cnt]

theorem look_of_live {s : St} {n : Nat} (h : ∃ x ∈ s.fl, x.num = n) : look s.fl n ≠ none := by
  obtain ⟨x, hx, rfl⟩ := h
  intro e
  have := (List.find?_eq_none.1 e) x hx
  simp at this
theorem PI.first {s : St} {c : Cmd} {cs : List Cmd} (h : PI s (c :: cs)) (hc : ∀ r b, c ≠ .add c.flow r b) {x : Fl} (hx : x ∈ s.fl) (hn : x.num = c.flow) : x.burst ≠ 0 := by
  intro e
  obtain ⟨r, b, q⟩ := h.fst x hx e
  rw [List.find?_cons, hn] at q
  simp at q
  exact hc r b q

theorem adm1_nums (s : St) (c : Cmd) : (adm1 s c).fl.map (·.num) = s.fl.map (·.num) := by
  cases c with
  | add f r b => exact upd_nums _ _ fun _ => rfl
  | set f r b l => show (arm _ f).fl.map _ = _; rw [arm_fl]; exact upd_nums _ _ fun _ => rfl
  | enq f =>
    unfold adm1
    simp only
    split
    · rfl
    · split
      · rw [arm_fl]; exact upd_nums _ _ fun _ => rfl
      · exact upd_nums _ _ fun _ => rfl

theorem PI.step {s : St} {c : Cmd} {cs : List Cmd} (h : PI s (c :: cs)) : PI (adm1 s c) cs := by
  have haf := List.pairwise_cons.1 h.af
  have hlive : ∀ d ∈ cs, ∃ x ∈ (adm1 s c).fl, x.num = d.flow := by
    intro d hd
    obtain ⟨x, hx, e⟩ := h.live d (List.mem_cons_of_mem _ hd)
    have : x.num ∈ (adm1 s c).fl.map (·.num) := by rw [adm1_nums]; exact List.mem_map.2 ⟨x, hx, rfl⟩
    obtain ⟨y, hy, e2⟩ := List.mem_map.1 this
    exact ⟨y, hy, e2.trans e⟩
  have hok : ∀ d ∈ cs, d.ok := fun d hd => h.ok d (List.mem_cons_of_mem _ hd)
  have hokc := h.ok c (List.mem_cons_self ..)
  have hne : ∀ x ∈ s.fl, x.num ≠ c.flow → x.burst = 0 → ∃ r b, cs.find? (·.flow == x.num) = some (.add x.num r b) := by
    intro x hx hn e
    obtain ⟨r, b, q⟩ := h.fst x hx e
    rw [List.find?_cons] at q
    have : (c.flow == x.num) = false := by simp; exact fun e => hn e.symm
    rw [this] at q
    exact ⟨r, b, q⟩
  have hadd : ∀ x ∈ s.fl, x.burst ≠ 0 → ∀ r b, .add x.num r b ∉ cs := fun x hx e r b q => h.add x hx e r b (List.mem_cons_of_mem _ q)
  obtain ⟨z, hz, hzn⟩ := h.live c (List.mem_cons_self ..)
  cases c with
  | add f r b =>
    have hb0 : ∀ x ∈ s.fl, x.num = f → x.burst = 0 := fun x hx hn => by
      rcases Nat.eq_zero_or_pos x.burst with e | e
      · exact e
      · have := h.add x hx (by omega) r b
        rw [hn] at this
        exact absurd (List.mem_cons_self ..) this
    have hF : ∀ x ∈ s.fl, x.num = f → FOk s.q { x with rate := r, burst := b, cr := b * parts } := fun x hx hn => by
      have q := h.wf.F x hx
      exact ⟨q.lens, q.few, q.adm, hokc.1, Nat.le_refl _, .inr hokc.2⟩
    refine ⟨h.wf.upd f _ (fun _ => rfl) hF fun a ha x hx _ hn ho => ?_, hok, hlive, ?_, ?_, ?_, haf.2⟩
    · have h1 := hb0 x hx hn
      have h2 := ho.le
      have h3 := ho.pos
      rcases (h.wf.F x hx).burst with ⟨_, _, e⟩ | ⟨e, _⟩ <;> omega
    · intro y hy
      obtain ⟨x, hx, ⟨e, rfl⟩ | ⟨e, rfl⟩⟩ := mem_upd hy
      · have := h.cnt x hx
        rw [cnt_cons_ne (by simp)] at this
        exact this
      · have := h.cnt _ hx
        rw [cnt_cons_ne (by simp)] at this
        exact this
    · intro y hy e0
      obtain ⟨x, hx, ⟨e, rfl⟩ | ⟨e, rfl⟩⟩ := mem_upd hy
      · have : b = 0 := e0
        have := hokc.2.1
        omega
      · exact hne _ hx e e0
    · intro y hy e0 r' b' q
      obtain ⟨x, hx, ⟨e, rfl⟩ | ⟨e, rfl⟩⟩ := mem_upd hy
      · exact haf.1 _ q f r' b' (by rw [← e]) rfl
      · exact hadd _ hx e0 r' b' q
  | set f r b l =>
    have hnz : ∀ x ∈ s.fl, x.num = f → x.burst ≠ 0 := fun x hx hn => h.first (fun _ _ e => by cases e) hx hn
    have hF : ∀ x ∈ s.fl, x.num = f → FOk s.q { x with rate := r, burst := b, cr := min x.cr (l * parts) } := fun x hx hn => by
      have q := h.wf.F x hx
      refine ⟨q.lens, q.few, q.adm, hokc.1, ?_, .inr ⟨hokc.2.1, hokc.2.2.1⟩⟩
      exact Nat.le_trans (Nat.min_le_right _ _) (Nat.mul_le_mul_right _ hokc.2.2.2.2)
    have hw := (h.wf.off f).upd f (fun x => { x with rate := r, burst := b, cr := min x.cr (l * parts) }) (fun _ => rfl) hF fun a ha x hx hn _ _ => absurd hn (mem_off.1 ha).2
    have hw2 := hw.arm f
    have hl : look (Pace.upd s.fl f fun x => { x with rate := r, burst := b, cr := min x.cr (l * parts) }) f ≠ none := by
      intro q
      rw [look_upd] at q
      · have q1 : look s.fl f = none := by simpa using q
        exact look_of_live ⟨z, hz, hzn⟩ q1
      · intro x; rfl
    have e2 := arm_offed (s := { s with fl := Pace.upd s.fl f fun x => { x with rate := r, burst := b, cr := min x.cr (l * parts) } }) (n := f) hl
    rw [e2] at hw2
    have hfl : (adm1 s (.set f r b l)).fl = Pace.upd s.fl f fun x => { x with rate := r, burst := b, cr := min x.cr (l * parts) } := arm_fl _ _
    refine ⟨hw2, hok, hlive, ?_, ?_, ?_, haf.2⟩
    · rw [hfl]
      intro y hy
      obtain ⟨x, hx, ⟨e, rfl⟩ | ⟨e, rfl⟩⟩ := mem_upd hy
      · have := h.cnt x hx
        rw [cnt_cons_ne (by simp)] at this
        exact this
      · have := h.cnt _ hx
        rw [cnt_cons_ne (by simp)] at this
        exact this
    · rw [hfl]
      intro y hy e0
      obtain ⟨x, hx, ⟨e, rfl⟩ | ⟨e, rfl⟩⟩ := mem_upd hy
      · have : b = 0 := e0
        have := hokc.2.1
        omega
      · exact hne _ hx e e0
    · rw [hfl]
      intro y hy e0 r' b' q
      obtain ⟨x, hx, ⟨e, rfl⟩ | ⟨e, rfl⟩⟩ := mem_upd hy
      · exact hadd x hx (hnz x hx e) r' b' q
      · exact hadd _ hx e0 r' b' q
  | enq f =>
    have hnz : ∀ x ∈ s.fl, x.num = f → x.burst ≠ 0 := fun x hx hn => h.first (fun _ _ e => by cases e) hx hn
    have hF : ∀ x ∈ s.fl, x.num = f → FOk s.q { x with adm := x.adm + 1 } := fun x hx hn => by
      have q := h.wf.F x hx
      have k := h.cnt x hx
      rw [hn, cnt_cons_eq] at k
      refine ⟨q.lens, q.few, by show x.adm + 1 ≤ x.pk.length; omega, q.rate, q.cr, .inr ?_⟩
      rcases q.burst with ⟨e, _⟩ | e
      · exact absurd e (hnz x hx hn)
      · exact e
    have hw := h.wf.upd f (fun x => { x with adm := x.adm + 1 }) (fun _ => rfl) hF fun a ha x hx hn _ ho => ⟨ho.pos, Nat.le_succ_of_le ho.le, ho.rate, ho.room, ho.got⟩
    have hfl : (adm1 s (.enq f)).fl = Pace.upd s.fl f fun x => { x with adm := x.adm + 1 } := by
      unfold adm1
      simp only
      split
      · rename_i q; exact absurd q (look_of_live ⟨z, hz, hzn⟩)
      · split
        · exact arm_fl _ _
        · rfl
    have hw2 : WF (adm1 s (.enq f)) := by
      unfold adm1
      simp only
      split
      · exact h.wf
      · split
        · exact hw.arm f
        · exact hw
    refine ⟨hw2, hok, hlive, ?_, ?_, ?_, haf.2⟩
    · rw [hfl]
      intro y hy
      obtain ⟨x, hx, ⟨e, rfl⟩ | ⟨e, rfl⟩⟩ := mem_upd hy
      · have := h.cnt x hx
        rw [e, cnt_cons_eq] at this
        show x.adm + 1 + Pace.cnt x.num cs = x.pk.length
        rw [e]
        omega
      · have := h.cnt _ hx
        rw [cnt_cons_ne (by simpa using fun q => e q.symm)] at this
        exact this
    · rw [hfl]
      intro y hy e0
      obtain ⟨x, hx, ⟨e, rfl⟩ | ⟨e, rfl⟩⟩ := mem_upd hy
      · exact absurd e0 (hnz x hx e)
      · exact hne _ hx e e0
    · rw [hfl]
      intro y hy e0 r' b' q
      obtain ⟨x, hx, ⟨e, rfl⟩ | ⟨e, rfl⟩⟩ := mem_upd hy
      · exact hadd x hx (hnz x hx e) r' b' q
      · exact hadd _ hx e0 r' b' q
theorem PI.admit {s : St} {cs : List Cmd} (h : PI s cs) : PI (Pace.admit s cs) [] := by
  induction cs generalizing s with
  | nil => exact h
  | cons c cs ih => exact ih h.step

theorem best_none {l : List Ar} : best l = none ↔ l = [] := by
  cases l with
  | nil => simp [best]
  | cons a l =>
    simp only [best]
    split
    · simp
    · split <;> simp
theorem best_some {l : List Ar} {a : Ar} (h : best l = some a) : a ∈ l ∧ ∀ b ∈ l, a.at' ≤ b.at' := by
  induction l generalizing a with
  | nil => simp [best] at h
  | cons c l ih =>
    simp only [best] at h
    split at h
    · rename_i q
      have e := best_none.1 q
      simp at h
      subst h
      subst e
      simp
    · rename_i b q
      obtain ⟨i1, i2⟩ := ih q
      split at h
      · rename_i hlt
        simp at h
        subst h
        refine ⟨List.mem_cons_of_mem _ i1, fun d hd => ?_⟩
        rcases List.mem_cons.1 hd with rfl | hd
        · omega
        · exact i2 d hd
      · rename_i hlt
        simp at h
        subst h
        refine ⟨List.mem_cons_self .., fun d hd => ?_⟩
        rcases List.mem_cons.1 hd with rfl | hd
        · exact Nat.le_refl _
        · have := i2 d hd; omega
theorem due_some {s : St} {a : Ar} (h : due s = some a) : best s.A = some a ∧ a.at' ≤ s.clock := by
  unfold due at h
  cases q : best s.A with
  | none => rw [q] at h; cases h
  | some b =>
    rw [q] at h
    simp [Option.filter] at h
    exact ⟨by rw [h.2], by rw [← h.2]; exact h.1⟩
theorem due_none {s : St} (h : due s = none) : ∀ a ∈ s.A, s.clock < a.at' := by
  intro a ha
  unfold due at h
  cases q : best s.A with
  | none => rw [best_none.1 q] at ha; cases ha
  | some b =>
    rw [q] at h
    simp [Option.filter] at h
    have := (best_some q).2 a ha
    omega

theorem bytes_drop (l : List (Int × Nat)) (k : Nat) : bytes (l.take k) + bytes (l.drop k) = bytes l := by
  unfold bytes
  rw [← List.sum_append, ← List.map_append, List.take_append_drop]

theorem PI.send {s : St} (h : PI s []) {a : Ar} (ha : a ∈ s.A) (hc : a.at' ≤ s.clock) :
    ∃ x ∈ s.fl, x.num = a.num ∧ look s.fl a.num = some x ∧ 0 < a.k ∧ a.k ≤ x.adm ∧ bytes (x.pk.take a.k) * parts ≤ x.cr ∧ (send s a).1 = (a.num, a.at', x.pk.take a.k) ∧ (send s a).2.fl = upd s.fl a.num (sentFl a.k) ∧ PI (send s a).2 [] := by
  obtain ⟨x, hx, ho⟩ := h.wf.A a ha
  obtain ⟨hm, hn⟩ := look_some hx
  have hgot : bytes (x.pk.take a.k) * parts ≤ x.cr := by
    have := ho.got
    rw [Nat.sub_eq_zero_of_le hc, Nat.mul_zero, Nat.add_zero] at this
    exact this
  have hF : ∀ y ∈ s.fl, y.num = a.num → FOk s.q (sentFl a.k y) := by
    intro y hy _
    have q := h.wf.F y hy
    have k := h.cnt y hy
    have hcr : (sentFl a.k y).cr ≤ y.burst * parts := by
      have := q.cr
      show y.cr - _ ≤ _
      exact Nat.le_trans (Nat.sub_le _ _) this
    refine ⟨fun p hp => q.lens p (List.mem_of_mem_drop hp), ?_, ?_, q.rate, hcr, ?_⟩
    · have := q.few; show (y.pk.drop a.k).length ≤ 8; simp; omega
    · have := q.adm; show y.adm - a.k ≤ (y.pk.drop a.k).length; simp; omega
    · rcases q.burst with ⟨e1, e2, e3⟩ | e
      · exact .inl ⟨e1, e2, by show y.adm - a.k = 0; omega⟩
      · exact .inr e
  have hw := ((h.wf.off a.num).upd a.num (sentFl a.k) (fun _ => rfl) hF fun b hb x hx hn _ _ => absurd hn (mem_off.1 hb).2).arm a.num
  have hfl : (Pace.send s a).2.fl = upd s.fl a.num (sentFl a.k) := arm_fl _ _
  refine ⟨x, hm, hn, hx, ho.pos, ho.le, hgot, by simp [Pace.send, hx], hfl, hw, fun c hc => (by cases hc), fun c hc => (by cases hc), ?_, ?_, fun _ _ _ _ _ q => (by cases q), List.Pairwise.nil⟩
  · rw [hfl]
    intro y hy
    obtain ⟨z, hz, ⟨e, rfl⟩ | ⟨e, rfl⟩⟩ := mem_upd hy
    · have := h.cnt z hz
      simp [Pace.cnt] at this ⊢
      simp [sentFl]
      omega
    · exact h.cnt _ hz
  · rw [hfl]
    intro y hy e0
    obtain ⟨z, hz, ⟨e, rfl⟩ | ⟨e, rfl⟩⟩ := mem_upd hy
    · obtain ⟨r, b, q⟩ := h.fst z hz e0; cases q
    · obtain ⟨r, b, q⟩ := h.fst _ hz e0; cases q
theorem PI.rel {s : St} (h : PI s []) (n : Nat) : PI (Pace.rel n s).2 [] := by
  induction n generalizing s with
  | zero => exact h
  | succ n ih =>
    unfold Pace.rel
    split
    · exact h
    · rename_i a q
      obtain ⟨q1, q2⟩ := due_some q
      obtain ⟨_, _, _, _, _, _, _, _, _, h'⟩ := h.send (best_some q1).1 q2
      exact ih h'
theorem rel_few {s : St} (n : Nat) (h : (rel n s).1.length < n) : due (rel n s).2 = none := by
  induction n generalizing s with
  | zero => simp at h
  | succ n ih =>
    unfold rel at h ⊢
    split
    · assumption
    · rename_i a q
      rw [q] at h
      simp at h
      exact ih h
def waits (l : List Fl) : Nat := (l.map (·.pk.length)).sum
theorem waits_upd {l : List Fl} (hn : (l.map (·.num)).Nodup) {x : Fl} (hx : x ∈ l) (k : Nat) (hk : k ≤ x.pk.length) : waits (upd l x.num (sentFl k)) + k = waits l := by
  induction l with
  | nil => cases hx
  | cons y l ih =>
    simp only [List.map_cons, List.nodup_cons] at hn
    rcases List.mem_cons.1 hx with rfl | hx
    · have e : upd l x.num (sentFl k) = l := by
        unfold upd
        conv => rhs; rw [← List.map_id l]
        refine List.map_congr_left fun z hz => ?_
        rw [if_neg fun e => hn.1 (List.mem_map.2 ⟨z, hz, e⟩)]
        rfl
      have e2 : upd (x :: l) x.num (sentFl k) = sentFl k x :: upd l x.num (sentFl k) := by simp [upd]
      rw [e2, e]
      simp [waits, sentFl]
      omega
    · have hne : y.num ≠ x.num := fun e => hn.1 (List.mem_map.2 ⟨x, hx, e.symm⟩)
      have e2 : upd (y :: l) x.num (sentFl k) = y :: upd l x.num (sentFl k) := by simp [upd, hne]
      rw [e2]
      have := ih hn.2 hx
      simp [waits] at this ⊢
      omega
/-- Each batch takes packets: so there is an end. -/
theorem PI.rel_len {s : St} (h : PI s []) (n : Nat) : (Pace.rel n s).1.length + waits (Pace.rel n s).2.fl ≤ waits s.fl := by
  induction n generalizing s with
  | zero => simp [Pace.rel]
  | succ n ih =>
    unfold Pace.rel
    split
    · simp
    · rename_i a q
      obtain ⟨q1, q2⟩ := due_some q
      obtain ⟨x, hx, hn, _, hk, hk2, _, _, hfl, h'⟩ := h.send (best_some q1).1 q2
      have := ih h'
      have h2 := waits_upd h.wf.nums hx a.k (Nat.le_trans hk2 (h.wf.F x hx).adm)
      rw [hn, ← hfl] at h2
      simp only [List.length_cons]
      omega

/-! ### The pacer: flows, what is not admitted yet, the newest number -/
structure PS where
  st : St
  newest : Nat
  asks : List Cmd

def PS.nums (p : PS) : List Nat := p.st.fl.map (·.num)
structure PS.Inv (p : PS) : Prop where
  pi : PI p.st p.asks
  rise : (p.st.fl.map (·.num)).Pairwise (· < ·)
  le : ∀ x ∈ p.st.fl, 1 ≤ x.num ∧ x.num ≤ p.newest
  few : p.st.fl.length ≤ 8

def allowed (r b : Int) : Prop := 0 ≤ r ∧ r ≤ 1000000000 ∧ 1500 ≤ b ∧ b ≤ 1000000
instance (r b : Int) : Decidable (allowed r b) := by unfold allowed; infer_instance

def PS.new (q : Nat) : PS := ⟨⟨q, 0, [], []⟩, 0, []⟩
theorem PS.new_inv {q : Nat} (h : 1500 ≤ q ∧ q ≤ 1000000) : (PS.new q).Inv := by
  refine ⟨⟨⟨h, by show 0 ≤ _; omega, List.nodup_nil, ?_, List.nodup_nil, ?_, ?_⟩, ?_, ?_, ?_, ?_, ?_, List.Pairwise.nil⟩, List.Pairwise.nil, ?_, by show 0 ≤ 8; omega⟩
  all_goals exact fun x hx => by cases hx

def PS.add (p : PS) (r b : Nat) : PS :=
  ⟨{ p.st with fl := p.st.fl ++ [⟨p.newest + 1, 0, 0, 0, [], 0⟩] }, p.newest + 1, p.asks ++ [.add (p.newest + 1) r b]⟩
theorem look_append_new {l : List Fl} {x : Fl} {n : Nat} (h : x.num ≠ n) : look (l ++ [x]) n = look l n := by
  simp [look, List.find?_append, h]
theorem cnt_append (f : Nat) (a b : List Cmd) : cnt f (a ++ b) = cnt f a + cnt f b := by simp [cnt]
theorem cnt_zero {f : Nat} {cs : List Cmd} (h : ∀ c ∈ cs, c.flow ≠ f) : cnt f cs = 0 := by
  unfold cnt
  rw [List.countP_eq_zero]
  intro c hc e
  have e' : c = .enq f := by simpa using e
  exact h c hc (by rw [e']; rfl)
theorem PS.Inv.add {p : PS} (h : p.Inv) {r b : Nat} (hr : r ≤ 1000000000) (hb : 1500 ≤ b ∧ b ≤ 1000000) (hf : p.st.fl.length < 8) : (p.add r b).Inv := by
  have hask : ∀ c ∈ p.asks, c.flow ≤ p.newest := fun c hc => by
    obtain ⟨x, hx, e⟩ := h.pi.live c hc
    rw [← e]; exact (h.le x hx).2
  have hmem : ∀ x ∈ (p.add r b).st.fl, x ∈ p.st.fl ∨ x = ⟨p.newest + 1, 0, 0, 0, [], 0⟩ := fun x hx => by
    have : x ∈ p.st.fl ++ [⟨p.newest + 1, 0, 0, 0, [], 0⟩] := hx
    simpa using this
  have hrise : ((p.add r b).st.fl.map (·.num)).Pairwise (· < ·) := by
    show ((p.st.fl ++ [_]).map _).Pairwise _
    rw [List.map_append, List.pairwise_append]
    refine ⟨h.rise, by simp, fun a ha c hc => ?_⟩
    obtain ⟨x, hx, rfl⟩ := List.mem_map.1 ha
    simp at hc
    have := (h.le x hx).2
    omega
  have hw := h.pi.wf
  refine ⟨⟨⟨hw.q, hw.clock, ?_, ?_, hw.anum, ?_, hw.at'⟩, ?_, ?_, ?_, ?_, ?_, ?_⟩, hrise, ?_, ?_⟩
  · exact hrise.imp fun q => by omega
  · intro x hx
    rcases hmem x hx with hx | rfl
    · exact hw.F x hx
    · exact ⟨fun p hp => (by cases hp), by show 0 ≤ 8; omega, Nat.le_refl _, by show 0 ≤ _; omega, by show 0 ≤ _; omega, .inl ⟨rfl, rfl, rfl⟩⟩
  · intro a ha
    obtain ⟨x, hx, ho⟩ := hw.A a ha
    have hn := (look_some hx)
    have := (h.le x hn.1).2
    refine ⟨x, ?_, ho⟩
    show look (p.st.fl ++ [_]) a.num = _
    rw [look_append_new (by show p.newest + 1 ≠ _; omega)]
    exact hx
  · intro c hc
    have : c ∈ p.asks ++ [.add (p.newest + 1) r b] := hc
    rcases List.mem_append.1 this with q | q
    · exact h.pi.ok c q
    · simp at q; subst q; exact ⟨hr, hb⟩
  · intro c hc
    have : c ∈ p.asks ++ [.add (p.newest + 1) r b] := hc
    rcases List.mem_append.1 this with q | q
    · obtain ⟨x, hx, e⟩ := h.pi.live c q
      exact ⟨x, List.mem_append.2 (.inl hx), e⟩
    · simp at q; subst q
      exact ⟨_, List.mem_append.2 (.inr (List.mem_singleton.2 rfl)), rfl⟩
  · intro x hx
    show x.adm + Pace.cnt x.num (p.asks ++ [_]) = _
    rw [cnt_append]
    rcases hmem x hx with hx | rfl
    · have := h.pi.cnt x hx
      rw [show Pace.cnt x.num [.add (p.newest + 1) r b] = 0 from cnt_cons_ne (cs := []) (by simp)]
      omega
    · rw [cnt_zero (cs := p.asks) fun c hc e => by have := hask c hc; rw [e] at this; exact absurd this (by show ¬ (p.newest + 1 ≤ _); omega)]
      rfl
  · intro x hx e0
    have ea : (p.add r b).asks = p.asks ++ [.add (p.newest + 1) r b] := rfl
    rw [ea, List.find?_append]
    rcases hmem x hx with hx | rfl
    · obtain ⟨r', b', q⟩ := h.pi.fst x hx e0
      exact ⟨r', b', by rw [q]; rfl⟩
    · refine ⟨r, b, ?_⟩
      have : p.asks.find? (fun c => c.flow == p.newest + 1) = none := by
        rw [List.find?_eq_none]
        intro c hc
        have := hask c hc
        simp
        omega
      show (p.asks.find? (fun c => c.flow == p.newest + 1)).or _ = _
      rw [this]
      simp [Cmd.flow]
  · intro x hx e0 r' b' q
    have : Cmd.add x.num r' b' ∈ p.asks ++ [.add (p.newest + 1) r b] := q
    rcases hmem x hx with hx | rfl
    · rcases List.mem_append.1 this with q | q
      · exact h.pi.add x hx e0 r' b' q
      · simp at q
        have := (h.le x hx).2
        omega
    · exact absurd rfl e0
  · show AddFirst (p.asks ++ [_])
    unfold AddFirst
    rw [List.pairwise_append]
    refine ⟨h.pi.af, by simp, fun c hc d hd f r' b' e => ?_⟩
    simp at hd
    subst hd
    have := hask c hc
    cases e
    omega
  · intro x hx
    show 1 ≤ x.num ∧ x.num ≤ p.newest + 1
    rcases hmem x hx with hx | rfl
    · have := h.le x hx; omega
    · exact ⟨by show 1 ≤ p.newest + 1; omega, Nat.le_refl _⟩
  · show (p.st.fl ++ [_]).length ≤ 8
    simp
    omega

def PS.set (p : PS) (f r b : Nat) : PS := { p with asks := p.asks ++ [.set f r b b] }
theorem PI.set {s : St} {cs : List Cmd} (h : PI s cs) {f r b l : Nat} (hf : ∃ x ∈ s.fl, x.num = f) (hok : (Cmd.set f r b l).ok) : PI s (cs ++ [.set f r b l]) := by
  refine ⟨h.wf, ?_, ?_, ?_, ?_, ?_, ?_⟩
  · intro c hc
    rcases List.mem_append.1 hc with q | q
    · exact h.ok c q
    · simp at q; subst q; exact hok
  · intro c hc
    rcases List.mem_append.1 hc with q | q
    · exact h.live c q
    · simp at q; subst q; exact hf
  · intro x hx
    rw [cnt_append, show Pace.cnt x.num [.set f r b l] = 0 from cnt_cons_ne (cs := []) (by simp)]
    exact h.cnt x hx
  · intro x hx e0
    obtain ⟨r', b', q⟩ := h.fst x hx e0
    exact ⟨r', b', by rw [List.find?_append, q]; rfl⟩
  · intro x hx e0 r' b' q
    rcases List.mem_append.1 q with q | q
    · exact h.add x hx e0 r' b' q
    · simp at q
  · unfold AddFirst
    rw [List.pairwise_append]
    refine ⟨h.af, by simp, fun c hc d hd g r' b' e => ?_⟩
    simp at hd
    subst hd
    cases e
theorem PS.Inv.set {p : PS} (h : p.Inv) {f r b : Nat} (hf : ∃ x ∈ p.st.fl, x.num = f) (hr : r ≤ 1000000000) (hb : 1500 ≤ b ∧ b ≤ 1000000) : (p.set f r b).Inv :=
  ⟨h.pi.set hf ⟨hr, hb.1, hb.2, hb.1, Nat.le_refl _⟩, h.rise, h.le, h.few⟩

def withPk (t : Int) (l : Nat) (x : Fl) : Fl := { x with pk := x.pk ++ [(t, l)] }
def PS.enq (p : PS) (f : Nat) (t : Int) (l : Nat) : PS := { p with st := { p.st with fl := upd p.st.fl f (withPk t l) }, asks := p.asks ++ [.enq f] }
theorem PI.enq {s : St} {cs : List Cmd} (h : PI s cs) {f : Nat} (t : Int) {l : Nat} (hf : ∃ x ∈ s.fl, x.num = f) (hl : 1 ≤ l ∧ l ≤ 1500) (h8 : ∀ x ∈ s.fl, x.num = f → x.pk.length < 8) : PI { s with fl := upd s.fl f (withPk t l) } (cs ++ [.enq f]) := by
  have hnums := upd_nums s.fl f (u := withPk t l) fun _ => rfl
  refine ⟨h.wf.upd f (withPk t l) (fun _ => rfl) ?_ ?_, ?_, ?_, ?_, ?_, ?_, ?_⟩
  · intro x hx hn
    have q := h.wf.F x hx
    refine ⟨fun p hp => ?_, ?_, ?_, q.rate, q.cr, q.burst⟩
    · have hp' : p ∈ x.pk ++ [(t, l)] := hp
      rcases List.mem_append.1 hp' with k | k
      · exact q.lens p k
      · simp at k; subst k; exact hl
    · have := h8 x hx hn
      show (x.pk ++ [(t, l)]).length ≤ 8
      simp; omega
    · have := q.adm
      show x.adm ≤ (x.pk ++ [(t, l)]).length
      simp; omega
  · intro a ha x hx _ hn ho
    have q := h.wf.F x hx
    have e : (x.pk ++ [(t, l)]).take a.k = x.pk.take a.k := List.take_append_of_le_length (Nat.le_trans ho.le q.adm)
    exact ⟨ho.pos, ho.le, ho.rate, by show bytes ((x.pk ++ [(t, l)]).take a.k) ≤ _; rw [e]; exact ho.room, by show bytes ((x.pk ++ [(t, l)]).take a.k) * parts ≤ _; rw [e]; exact ho.got⟩
  · intro c hc
    rcases List.mem_append.1 hc with q | q
    · exact h.ok c q
    · simp at q; subst q; exact trivial
  · intro c hc
    have : ∃ x ∈ s.fl, x.num = c.flow := by
      rcases List.mem_append.1 hc with q | q
      · exact h.live c q
      · simp at q; subst q; exact hf
    obtain ⟨x, hx, e⟩ := this
    have hm : x.num ∈ (upd s.fl f (withPk t l)).map (·.num) := by rw [hnums]; exact List.mem_map.2 ⟨x, hx, rfl⟩
    obtain ⟨y, hy, e2⟩ := List.mem_map.1 hm
    exact ⟨y, hy, e2.trans e⟩
  · intro y hy
    rw [cnt_append]
    obtain ⟨x, hx, ⟨e, rfl⟩ | ⟨e, rfl⟩⟩ := mem_upd hy
    · have := h.cnt x hx
      show x.adm + (Pace.cnt x.num cs + Pace.cnt x.num [.enq f]) = (x.pk ++ [(t, l)]).length
      rw [e] at this ⊢
      rw [cnt_cons_eq]
      simp [Pace.cnt] at this ⊢
      omega
    · have := h.cnt y hx
      rw [show Pace.cnt y.num [.enq f] = 0 from cnt_cons_ne (cs := []) (by simpa using fun q => e q.symm)]
      exact this
  · intro y hy e0
    obtain ⟨x, hx, ⟨e, rfl⟩ | ⟨e, rfl⟩⟩ := mem_upd hy
    · obtain ⟨r', b', q⟩ := h.fst x hx e0
      refine ⟨r', b', ?_⟩
      rw [List.find?_append]
      show (cs.find? fun c => c.flow == x.num).or _ = _
      rw [q]
      rfl
    · obtain ⟨r', b', q⟩ := h.fst y hx e0
      exact ⟨r', b', by rw [List.find?_append, q]; rfl⟩
  · intro y hy e0 r' b' q
    have q' : Cmd.add y.num r' b' ∈ cs := by
      rcases List.mem_append.1 q with q | q
      · exact q
      · simp at q
    obtain ⟨x, hx, ⟨e, rfl⟩ | ⟨e, rfl⟩⟩ := mem_upd hy
    · exact h.add x hx e0 r' b' q'
    · exact h.add y hx e0 r' b' q'
  · unfold AddFirst
    rw [List.pairwise_append]
    refine ⟨h.af, by simp, fun c hc d hd g r' b' e => ?_⟩
    simp at hd
    subst hd
    cases e
theorem PS.Inv.enq {p : PS} (h : p.Inv) {f : Nat} (t : Int) {l : Nat} (hf : ∃ x ∈ p.st.fl, x.num = f) (hl : 1 ≤ l ∧ l ≤ 1500) (h8 : ∀ x ∈ p.st.fl, x.num = f → x.pk.length < 8) : (p.enq f t l).Inv := by
  have hnums := upd_nums p.st.fl f (u := withPk t l) fun _ => rfl
  refine ⟨h.pi.enq t hf hl h8, ?_, ?_, ?_⟩
  · show ((upd p.st.fl f (withPk t l)).map _).Pairwise _
    rw [hnums]; exact h.rise
  · intro y hy
    obtain ⟨x, hx, ⟨e, rfl⟩ | ⟨e, rfl⟩⟩ := mem_upd hy
    · exact h.le x hx
    · exact h.le y hx
  · show (upd p.st.fl f (withPk t l)).length ≤ 8
    simp [upd]
    exact h.few

def gone (l : List Fl) (f : Nat) : List Fl := l.filter (·.num ≠ f)
def PS.remove (p : PS) (f : Nat) : PS := { p with st := { p.st with fl := gone p.st.fl f, A := off p.st.A f }, asks := p.asks.filter (·.flow ≠ f) }
theorem mem_gone {l : List Fl} {f : Nat} {x : Fl} : x ∈ gone l f ↔ x ∈ l ∧ x.num ≠ f := by simp [gone]
theorem look_gone {l : List Fl} {f n : Nat} (h : n ≠ f) : look (gone l f) n = look l n := by
  induction l with
  | nil => rfl
  | cons x l ih =>
    unfold look gone at ih ⊢
    rw [List.filter_cons]
    by_cases e : x.num = f
    · have hn : ¬ x.num = n := by omega
      simp only [e, ne_eq, not_true_eq_false, decide_false, Bool.false_eq_true, if_false, List.find?_cons] at ih ⊢
      rw [ih]
      simp [show ¬ f = n by omega]
    · simp only [ne_eq, e, not_false_eq_true, decide_true, if_true, List.find?_cons] at ih ⊢
      rw [ih]
theorem cnt_filter {f n : Nat} (h : n ≠ f) (cs : List Cmd) : cnt n (cs.filter (·.flow ≠ f)) = cnt n cs := by
  unfold cnt
  rw [List.countP_filter]
  refine List.countP_congr fun c _ => ?_
  by_cases e : c = .enq n
  · subst e; simp [Cmd.flow, h]
  · simp [e]
theorem find_filter {f n : Nat} (h : n ≠ f) (cs : List Cmd) : (cs.filter (·.flow ≠ f)).find? (·.flow == n) = cs.find? (·.flow == n) := by
  rw [List.find?_filter]
  congr 1
  funext c
  by_cases e : c.flow = n
  · simp [e, h]
  · simp [e]
theorem PI.remove {s : St} {cs : List Cmd} (h : PI s cs) (f : Nat) : PI { s with fl := gone s.fl f, A := Pace.off s.A f } (cs.filter (·.flow ≠ f)) := by
  have hw := h.wf
  refine ⟨⟨hw.q, hw.clock, List.Nodup.sublist (List.Sublist.map _ List.filter_sublist) hw.nums, fun x hx => hw.F x (mem_gone.1 hx).1, off_nodup f hw.anum, ?_, fun a ha => hw.at' a (mem_off.1 ha).1⟩, ?_, ?_, ?_, ?_, ?_, ?_⟩
  · intro a ha
    obtain ⟨h1, h2⟩ := mem_off.1 ha
    obtain ⟨x, hx, ho⟩ := hw.A a h1
    exact ⟨x, by show look (gone s.fl f) _ = _; rw [look_gone h2]; exact hx, ho⟩
  · exact fun c hc => h.ok c (List.mem_filter.1 hc).1
  · intro c hc
    obtain ⟨x, hx, e⟩ := h.live c (List.mem_filter.1 hc).1
    have : c.flow ≠ f := by simpa using (List.mem_filter.1 hc).2
    exact ⟨x, mem_gone.2 ⟨hx, by rw [e]; exact this⟩, e⟩
  · intro x hx
    obtain ⟨h1, h2⟩ := mem_gone.1 hx
    rw [cnt_filter h2]
    exact h.cnt x h1
  · intro x hx e0
    obtain ⟨h1, h2⟩ := mem_gone.1 hx
    rw [find_filter h2]
    exact h.fst x h1 e0
  · intro x hx e0 r b q
    exact h.add x (mem_gone.1 hx).1 e0 r b (List.mem_filter.1 q).1
  · exact List.Pairwise.sublist List.filter_sublist h.af
theorem PS.Inv.remove {p : PS} (h : p.Inv) (f : Nat) : (p.remove f).Inv := by
  refine ⟨h.pi.remove f, List.Pairwise.sublist (List.Sublist.map _ List.filter_sublist) h.rise, fun x hx => h.le x (mem_gone.1 hx).1, ?_⟩
  have : (gone p.st.fl f).length ≤ p.st.fl.length := List.length_filter_le _ _
  exact Nat.le_trans this h.few

theorem PI.tick {s : St} {cs : List Cmd} (h : PI s cs) {now : Nat} (hn : now ≤ 4000000000000000000) : PI (Pace.tick s now) cs := by
  have key : ∀ y ∈ (Pace.tick s now).fl, ∃ x ∈ s.fl, y.num = x.num ∧ y.adm = x.adm ∧ y.pk = x.pk ∧ y.burst = x.burst := fun y hy => by
    obtain ⟨x, hx, rfl⟩ := List.mem_map.1 hy
    exact ⟨x, hx, rfl, rfl, rfl, rfl⟩
  refine ⟨h.wf.tick now hn, h.ok, ?_, ?_, ?_, ?_, h.af⟩
  · intro c hc
    obtain ⟨x, hx, e⟩ := h.live c hc
    exact ⟨_, List.mem_map.2 ⟨x, hx, rfl⟩, e⟩
  · intro y hy
    obtain ⟨x, hx, e1, e2, e3, _⟩ := key y hy
    rw [e1, e2, e3]; exact h.cnt x hx
  · intro y hy e0
    obtain ⟨x, hx, e1, e2, e3, e4⟩ := key y hy
    rw [e1]; exact h.fst x hx (e4 ▸ e0)
  · intro y hy e0
    obtain ⟨x, hx, e1, e2, e3, e4⟩ := key y hy
    rw [e1]; exact h.add x hx (e4 ▸ e0)
noncomputable def PS.poll (p : PS) (now budget : Nat) : List (Nat × Nat × List (Int × Nat)) × PS :=
  ((rel budget (admit (tick p.st now) p.asks)).1, { p with st := (rel budget (admit (tick p.st now) p.asks)).2, asks := [] })
theorem admit_nums (s : St) (cs : List Cmd) : (admit s cs).fl.map (·.num) = s.fl.map (·.num) := by
  induction cs generalizing s with
  | nil => rfl
  | cons c cs ih => exact (ih (adm1 s c)).trans (adm1_nums s c)
theorem send_nums (s : St) (a : Ar) : (send s a).2.fl.map (·.num) = s.fl.map (·.num) := by
  show (arm _ _).fl.map _ = _
  rw [arm_fl]
  exact upd_nums _ _ fun _ => rfl
theorem rel_nums (n : Nat) (s : St) : (rel n s).2.fl.map (·.num) = s.fl.map (·.num) := by
  induction n generalizing s with
  | zero => rfl
  | succ n ih =>
    unfold rel
    split
    · rfl
    · rename_i a q
      exact (ih _).trans (send_nums s a)
theorem PS.poll_nums (p : PS) (now budget : Nat) : (p.poll now budget).2.st.fl.map (·.num) = p.st.fl.map (·.num) := by
  show (rel _ _).2.fl.map _ = _
  rw [rel_nums, admit_nums]
  show (p.st.fl.map _).map _ = _
  rw [List.map_map]
  rfl
theorem PS.Inv.poll {p : PS} (h : p.Inv) {now : Nat} (budget : Nat) (hn : now ≤ 4000000000000000000) : (p.poll now budget).2.Inv := by
  have hnums := p.poll_nums now budget
  refine ⟨((h.pi.tick hn).admit).rel budget, by rw [hnums]; exact h.rise, ?_, ?_⟩
  · intro x hx
    have : x.num ∈ p.st.fl.map (·.num) := by rw [← hnums]; exact List.mem_map.2 ⟨x, hx, rfl⟩
    obtain ⟨y, hy, e⟩ := List.mem_map.1 this
    rw [← e]; exact h.le y hy
  · have := congrArg List.length hnums
    simp at this
    rw [this]; exact h.few

/-! ### What the program keeps of what is not admitted yet -/
structure Same (p : PS) (P : List Cmd) : Prop where
  inv : PS.Inv { p with asks := P }
  eq : ∀ s : St, (∀ x ∈ s.fl, x.num ∈ p.nums ∨ p.newest < x.num) → admit s P = admit s p.asks
  fl : ∀ f, (∃ c ∈ P, c.flow = f) ↔ ∃ c ∈ p.asks, c.flow = f
theorem Same.nil {p : PS} {P : List Cmd} (h : Same p P) : P = [] ↔ p.asks = [] := by
  constructor
  · intro e
    cases q : p.asks with
    | nil => rfl
    | cons c l =>
      obtain ⟨d, hd, _⟩ := (h.fl c.flow).2 ⟨c, by rw [q]; exact List.mem_cons_self .., rfl⟩
      rw [e] at hd; cases hd
  · intro e
    cases q : P with
    | nil => rfl
    | cons c l =>
      obtain ⟨d, hd, _⟩ := (h.fl c.flow).1 ⟨c, by rw [q]; exact List.mem_cons_self .., rfl⟩
      rw [e] at hd; cases hd
theorem Same.new {q : Nat} (h : 1500 ≤ q ∧ q ≤ 1000000) : Same (PS.new q) [] := ⟨PS.new_inv h, fun _ _ => rfl, fun _ => Iff.rfl⟩
theorem ex_append {P : List Cmd} {c : Cmd} {f : Nat} : (∃ d ∈ P ++ [c], d.flow = f) ↔ (∃ d ∈ P, d.flow = f) ∨ c.flow = f := by
  constructor
  · rintro ⟨d, hd, e⟩
    rcases List.mem_append.1 hd with q | q
    · exact .inl ⟨d, q, e⟩
    · simp at q; subst q; exact .inr e
  · rintro (⟨d, hd, e⟩ | e)
    · exact ⟨d, List.mem_append.2 (.inl hd), e⟩
    · exact ⟨c, List.mem_append.2 (.inr (List.mem_singleton.2 rfl)), e⟩
theorem Same.add {p : PS} {P : List Cmd} (h : Same p P) {r b : Nat} (hr : r ≤ 1000000000) (hb : 1500 ≤ b ∧ b ≤ 1000000) (hf : p.st.fl.length < 8) : Same (p.add r b) (P ++ [.add (p.newest + 1) r b]) := by
  refine ⟨h.inv.add hr hb hf, fun s hs => ?_, fun f => ?_⟩
  · show admit s (P ++ [_]) = admit s (p.asks ++ [_])
    rw [admit_append, admit_append, h.eq s fun x hx => ?_]
    rcases hs x hx with q | q
    · have : x.num ∈ (p.st.fl ++ [(⟨p.newest + 1, 0, 0, 0, [], 0⟩ : Fl)]).map (fun x : Fl => x.num) := q
      rw [List.map_append, List.mem_append] at this
      rcases this with k | k
      · exact .inl k
      · simp at k
        exact .inr (by omega)
    · have : p.newest + 1 < x.num := q
      exact .inr (by omega)
  · show (∃ c ∈ P ++ [_], _) ↔ ∃ c ∈ p.asks ++ [_], _
    rw [ex_append, ex_append, h.fl f]
theorem Same.enq {p : PS} {P : List Cmd} (h : Same p P) {f : Nat} (t : Int) {l : Nat} (hf : ∃ x ∈ p.st.fl, x.num = f) (hl : 1 ≤ l ∧ l ≤ 1500) (h8 : ∀ x ∈ p.st.fl, x.num = f → x.pk.length < 8) : Same (p.enq f t l) (P ++ [.enq f]) := by
  refine ⟨h.inv.enq t hf hl h8, fun s hs => ?_, fun g => ?_⟩
  · show admit s (P ++ [_]) = admit s (p.asks ++ [_])
    rw [admit_append, admit_append, h.eq s fun x hx => ?_]
    have e : (p.enq f t l).nums = p.nums := upd_nums _ _ fun _ => rfl
    rw [← e]
    exact hs x hx
  · show (∃ c ∈ P ++ [_], _) ↔ ∃ c ∈ p.asks ++ [_], _
    rw [ex_append, ex_append, h.fl g]
theorem Same.remove {p : PS} {P : List Cmd} (h : Same p P) (f : Nat) (hf : f ≤ p.newest) : Same (p.remove f) (P.filter (·.flow ≠ f)) := by
  refine ⟨h.inv.remove f, fun s hs => ?_, fun g => ?_⟩
  · have hgone : ∀ x ∈ s.fl, x.num ≠ f := by
      intro x hx e
      rcases hs x hx with q | q
      · obtain ⟨y, hy, e2⟩ := List.mem_map.1 q
        exact (mem_gone.1 hy).2 (e2.trans e)
      · have : p.newest < x.num := q
        omega
    show admit s (P.filter _) = admit s (p.asks.filter _)
    rw [← admit_gone s P f hgone, ← admit_gone s p.asks f hgone]
    refine h.eq s fun x hx => ?_
    rcases hs x hx with q | q
    · obtain ⟨y, hy, e2⟩ := List.mem_map.1 q
      exact .inl (List.mem_map.2 ⟨y, (mem_gone.1 hy).1, e2⟩)
    · exact .inr q
  · have key : ∀ L : List Cmd, (∃ c ∈ L.filter (·.flow ≠ f), c.flow = g) ↔ (∃ c ∈ L, c.flow = g) ∧ g ≠ f := by
      intro L
      constructor
      · rintro ⟨c, hc, e⟩
        obtain ⟨h1, h2⟩ := List.mem_filter.1 hc
        exact ⟨⟨c, h1, e⟩, by rw [← e]; simpa using h2⟩
      · rintro ⟨⟨c, hc, e⟩, hg⟩
        exact ⟨c, List.mem_filter.2 ⟨hc, by rw [e]; simpa using hg⟩, e⟩
    show (∃ c ∈ P.filter _, _) ↔ ∃ c ∈ p.asks.filter _, _
    rw [key, key, h.fl g]

theorem leastIn_ok {f : Nat} {cs : List Cmd} (h : ∀ c ∈ cs, c.ok) {m : Option Nat} (hm : ∀ k, m = some k → 1500 ≤ k) : ∀ k, leastIn f m cs = some k → 1500 ≤ k := by
  induction cs generalizing m with
  | nil => exact hm
  | cons c cs ih =>
    have h1 := fun d hd => h d (List.mem_cons_of_mem _ hd)
    cases c with
    | add _ _ _ => exact ih h1 hm
    | enq _ => exact ih h1 hm
    | set g r b l =>
      have ho := h _ (List.mem_cons_self ..)
      refine ih h1 ?_
      split
      · intro k e
        have h4 := ho.2.2.2.1
        cases m with
        | none => simp [leastOf] at e; omega
        | some j =>
          have := hm j rfl
          simp [leastOf] at e
          omega
      · exact hm
theorem PI.unset {s : St} {cs : List Cmd} (h : PI s cs) (f : Nat) : PI s (cs.filter fun c => !isSet f c) := by
  refine ⟨h.wf, fun c hc => h.ok c (List.mem_filter.1 hc).1, fun c hc => h.live c (List.mem_filter.1 hc).1, ?_, ?_, fun x hx e0 r b q => h.add x hx e0 r b (List.mem_filter.1 q).1, List.Pairwise.sublist List.filter_sublist h.af⟩
  · intro x hx
    have : Pace.cnt x.num (cs.filter fun c => !isSet f c) = Pace.cnt x.num cs := by
      unfold Pace.cnt
      rw [List.countP_filter]
      refine List.countP_congr fun c _ => ?_
      by_cases e : c = .enq x.num
      · subst e; simp [isSet]
      · simp [e]
    rw [this]
    exact h.cnt x hx
  · intro x hx e0
    obtain ⟨r, b, q⟩ := h.fst x hx e0
    refine ⟨r, b, ?_⟩
    rw [List.find?_filter]
    clear h
    induction cs with
    | nil => cases q
    | cons c cs ih =>
      rw [List.find?_cons] at q ⊢
      by_cases e : (c.flow == x.num) = true
      · rw [e] at q
        simp at q
        subst q
        simp [isSet, Cmd.flow]
      · have e' : (c.flow == x.num) = false := by simpa using e
        rw [e'] at q
        have := ih q
        simpa [e'] using this
theorem Same.set {p : PS} {P : List Cmd} (h : Same p P) {f r b : Nat} (hf : ∃ x ∈ p.st.fl, x.num = f) (hr : r ≤ 1000000000) (hb : 1500 ≤ b ∧ b ≤ 1000000) : Same (p.set f r b) (P.filter (fun c => !isSet f c) ++ [.set f r b (leastOf b (leastIn f none P))]) := by
  have hl : 1500 ≤ leastOf b (leastIn f none P) ∧ leastOf b (leastIn f none P) ≤ b := by
    have := leastIn_ok (f := f) h.inv.pi.ok (m := none) (fun k e => by cases e)
    cases q : leastIn f none P with
    | none => exact ⟨hb.1, Nat.le_refl _⟩
    | some k =>
      have := this k q
      simp [leastOf]
      omega
  refine ⟨⟨(h.inv.pi.unset f).set hf ⟨hr, hb.1, hb.2, hl.1, hl.2⟩, h.inv.rise, h.inv.le, h.inv.few⟩, fun s hs => ?_, fun g => ?_⟩
  · show _ = admit s (p.asks ++ [_])
    rw [← admit_set s P h.inv.pi.af, admit_append, admit_append, h.eq s hs]
  · show _ ↔ ∃ c ∈ p.asks ++ [_], _
    rw [ex_append, ex_append, ← h.fl g]
    constructor
    · rintro (⟨c, hc, e⟩ | e)
      · exact .inl ⟨c, (List.mem_filter.1 hc).1, e⟩
      · exact .inr e
    · rintro (⟨c, hc, e⟩ | e)
      · by_cases q : isSet f c = true
        · cases c with
          | set g' r' b' l' =>
            simp [isSet] at q
            subst q
            exact .inr e
          | add _ _ _ => simp [isSet] at q
          | enq _ => simp [isSet] at q
        · exact .inl ⟨c, List.mem_filter.2 ⟨hc, by simpa using q⟩, e⟩
      · exact .inr e
theorem tick_nums (s : St) (now : Nat) : (tick s now).fl.map (·.num) = s.fl.map (·.num) := by
  show (s.fl.map _).map _ = _
  rw [List.map_map]
  rfl
theorem Same.poll_eq {p : PS} {P : List Cmd} (h : Same p P) (now : Nat) : admit (tick p.st now) P = admit (tick p.st now) p.asks := by
  refine h.eq _ fun x hx => .inl ?_
  show x.num ∈ p.st.fl.map (·.num)
  rw [← tick_nums p.st now]
  exact List.mem_map.2 ⟨x, hx, rfl⟩
theorem Same.poll {p : PS} (hi : p.Inv) {now : Nat} (budget : Nat) (hn : now ≤ 4000000000000000000) : Same (p.poll now budget).2 [] :=
  ⟨hi.poll budget hn, fun _ _ => rfl, fun _ => Iff.rfl⟩

/-! ### What a flow has sent -/
def pksOf (f : Nat) (bs : List (Nat × Nat × List (Int × Nat))) : List (Int × Nat) := (bs.filter (·.1 = f)).flatMap (·.2.2)
theorem bytes_append (a b : List (Int × Nat)) : bytes (a ++ b) = bytes a + bytes b := by simp [bytes]
theorem look_send {s : St} {a : Ar} (f : Nat) : look (send s a).2.fl f = (look s.fl f).map fun x => if x.num = a.num then sentFl a.k x else x := by
  show look (arm _ _).fl f = _
  rw [arm_fl]
  exact look_upd _ _ _ fun _ => rfl
/-- What is released is the first of what waits, and its credit is taken off. -/
theorem PI.rel_flow {s : St} (h : PI s []) (n f : Nat) {x : Fl} (hx : look s.fl f = some x) :
    ∃ y, look (Pace.rel n s).2.fl f = some y ∧ y.rate = x.rate ∧ y.burst = x.burst ∧ pksOf f (Pace.rel n s).1 ++ y.pk = x.pk ∧ y.cr + bytes (pksOf f (Pace.rel n s).1) * parts = x.cr ∧ y.adm + (pksOf f (Pace.rel n s).1).length = x.adm := by
  induction n generalizing s x with
  | zero => exact ⟨x, hx, rfl, rfl, rfl, by simp [Pace.rel, pksOf, bytes], by simp [Pace.rel, pksOf]⟩
  | succ n ih =>
    unfold Pace.rel
    split
    · exact ⟨x, hx, rfl, rfl, rfl, by simp [pksOf, bytes], by simp [pksOf]⟩
    · rename_i a q
      obtain ⟨q1, q2⟩ := due_some q
      obtain ⟨z, hz, hzn, hlz, hk, hk2, hgot, hsent, hfl, h'⟩ := h.send (best_some q1).1 q2
      have hxn := (look_some hx).2
      by_cases e : a.num = f
      · have hxz : x = z := by rw [← e, hlz] at hx; exact (Option.some.inj hx).symm
        subst hxz
        have hl : look (Pace.send s a).2.fl f = some (sentFl a.k x) := by
          rw [look_send, hx]; simp [hzn]
        obtain ⟨y, y1, y2, y3, y4, y5, y6⟩ := ih h' hl
        have hp : pksOf f ((Pace.send s a).1 :: (Pace.rel n (Pace.send s a).2).1) = x.pk.take a.k ++ pksOf f (Pace.rel n (Pace.send s a).2).1 := by
          rw [hsent]; simp [pksOf, e]
        have y5' : y.cr + bytes (pksOf f (Pace.rel n (Pace.send s a).2).1) * parts = x.cr - bytes (x.pk.take a.k) * parts := y5
        have y4' : pksOf f (Pace.rel n (Pace.send s a).2).1 ++ y.pk = x.pk.drop a.k := y4
        have y6' : y.adm + (pksOf f (Pace.rel n (Pace.send s a).2).1).length = x.adm - a.k := y6
        refine ⟨y, y1, y2, y3, ?_, ?_, ?_⟩
        · show pksOf f (_ :: _) ++ _ = _
          rw [hp, List.append_assoc, y4', List.take_append_drop]
        · show _ + bytes (pksOf f (_ :: _)) * parts = _
          rw [hp, bytes_append, Nat.add_mul]
          omega
        · show _ + (pksOf f (_ :: _)).length = _
          rw [hp, List.length_append, List.length_take]
          have := (h.wf.F x hz).adm
          omega
      · have hl : look (Pace.send s a).2.fl f = some x := by
          rw [look_send, hx]
          have : ¬ x.num = a.num := by omega
          simp [this]
        obtain ⟨y, y1, y2, y3, y4, y5, y6⟩ := ih h' hl
        have hp : pksOf f ((Pace.send s a).1 :: (Pace.rel n (Pace.send s a).2).1) = pksOf f (Pace.rel n (Pace.send s a).2).1 := by
          rw [hsent]; simp [pksOf, e]
        exact ⟨y, y1, y2, y3, by rw [hp]; exact y4, by rw [hp]; exact y5, by rw [hp]; exact y6⟩
/-- Nothing is sent of a flow that is not there. -/
theorem PI.rel_none {s : St} (h : PI s []) (n f : Nat) (hx : look s.fl f = none) : pksOf f (Pace.rel n s).1 = [] := by
  induction n generalizing s with
  | zero => rfl
  | succ n ih =>
    unfold Pace.rel
    split
    · rfl
    · rename_i a q
      obtain ⟨q1, q2⟩ := due_some q
      obtain ⟨z, hz, hzn, hlz, hk, hk2, hgot, hsent, hfl, h'⟩ := h.send (best_some q1).1 q2
      have e : a.num ≠ f := fun e => by rw [e, hx] at hlz; cases hlz
      have hl : look (Pace.send s a).2.fl f = none := by rw [look_send, hx]; rfl
      have := ih h' hl
      show pksOf f (_ :: _) = []
      rw [hsent]
      simp [pksOf, e] at this ⊢
      exact this

/-- What admitting does to the credit of a flow that was admitted before: it is never more. -/
theorem adm1_look (s : St) (c : Cmd) (f : Nat) : ∃ g : Fl → Fl, look (adm1 s c).fl f = (look s.fl f).map g ∧ ∀ x, (g x).num = x.num ∧ (g x).pk = x.pk ∧ (c.flow ≠ f → x.num = f → g x = x) ∧
    ((∀ r b, c ≠ .add f r b) → x.num = f → (g x).cr ≤ x.cr) ∧ ((∀ r b, c ≠ .add f r b) → (∀ r b l, c ≠ .set f r b l) → x.num = f → (g x).rate = x.rate ∧ (g x).burst = x.burst ∧ (g x).cr = x.cr) := by
  cases c with
  | add g r b =>
    refine ⟨_, look_upd _ _ _ (by intro x; rfl), fun x => ?_⟩
    by_cases e : x.num = g
    · simp only [e, if_true, true_and]
      exact ⟨fun h1 h2 => absurd h2 h1, fun h1 h2 => absurd (by rw [h2]) (h1 r b), fun h1 _ h2 => absurd (by rw [h2]) (h1 r b)⟩
    · simp [e]
  | set g r b l =>
    refine ⟨_, by show look (arm _ _).fl f = _; rw [arm_fl]; exact look_upd _ _ _ (by intro x; rfl), fun x => ?_⟩
    by_cases e : x.num = g
    · simp only [e, if_true, true_and]
      exact ⟨fun h1 h2 => absurd h2 h1, fun _ _ => Nat.min_le_left _ _, fun _ h1 h2 => absurd (by rw [h2]) (h1 r b l)⟩
    · simp [e]
  | enq g =>
    have hfl : (adm1 s (.enq g)).fl = upd s.fl g fun x => { x with adm := x.adm + 1 } := by
      unfold adm1
      simp only
      split
      · rename_i q
        unfold upd
        conv => lhs; rw [← List.map_id s.fl]
        refine List.map_congr_left fun x hx => ?_
        have := (List.find?_eq_none.1 q) x hx
        rw [if_neg (by simpa using this)]
        rfl
      · split
        · exact arm_fl _ _
        · rfl
    refine ⟨_, by rw [hfl]; exact look_upd _ _ _ (by intro x; rfl), fun x => ?_⟩
    by_cases e : x.num = g
    · simp only [e, if_true, true_and]
      exact ⟨fun h1 h2 => absurd h2 h1, fun _ _ => Nat.le_refl _, by simp⟩
    · simp [e]
end Pace
end Go.Proofs.YtogdekjklbbbiaaGreatDoor
