import Derived.Test.YtogdekjklbbbiaaDoorSpec
set_option maxRecDepth 100000
namespace Go.Proofs.YtogdekjklbbbiaaDoor
namespace Pace
set_option linter.unusedSimpArgs false
set_option linter.unusedVariables false

/-! ### What the Polls told -/
/-- A flow's rate and burst behind a command. -/
def rb (f : Nat) (z : Nat × Nat) : Cmd → Nat × Nat
  | .add g r b => if g = f then (r, b) else z
  | .set g r b _ => if g = f then (r, b) else z
  | .enq _ => z
def rbs (f : Nat) (z : Nat × Nat) (cs : List Cmd) : Nat × Nat := cs.foldl (rb f) z
theorem rbs_append (f : Nat) (z : Nat × Nat) (a b : List Cmd) : rbs f z (a ++ b) = rbs f (rbs f z a) b := by simp [rbs]
theorem rb_other {f : Nat} {c : Cmd} (h : c.flow ≠ f) (z : Nat × Nat) : rb f z c = z := by
  cases c with
  | add g r b => exact if_neg h
  | set g r b l => exact if_neg h
  | enq g => rfl
theorem rbs_filter {f g : Nat} (h : g ≠ f) (cs : List Cmd) (z : Nat × Nat) : rbs g z (cs.filter (·.flow ≠ f)) = rbs g z cs := by
  induction cs generalizing z with
  | nil => rfl
  | cons c cs ih =>
    rw [List.filter_cons]
    split
    · exact ih _
    · rename_i q
      have e : c.flow = f := by simpa using q
      rw [ih]
      show _ = rbs g (rb g z c) cs
      rw [rb_other (by omega)]
theorem adm1_rb (s : St) (c : Cmd) (f : Nat) {x : Fl} (hx : look s.fl f = some x) : ∃ y, look (adm1 s c).fl f = some y ∧ (y.rate, y.burst) = rb f (x.rate, x.burst) c ∧ y.pk = x.pk ∧ ((∀ r b, c ≠ .add f r b) → y.cr ≤ x.cr) := by
  have hn := (look_some hx).2
  cases c with
  | add g r b =>
    by_cases e : g = f
    · subst e
      have hl : look (adm1 s (.add g r b)).fl g = some { x with rate := r, burst := b, cr := b * parts } := by
        show look (upd s.fl g _) g = _
        rw [look_upd _ _ _ (by intro x; rfl), hx, Option.map_some, if_pos hn]
      exact ⟨_, hl, by simp [rb], rfl, fun h => absurd rfl (h r b)⟩
    · exact ⟨x, by show look (upd s.fl g _) f = _; rw [look_upd _ _ _ (by intro x; rfl), hx, Option.map_some, if_neg (by omega)], by simp [rb, e], rfl, fun _ => Nat.le_refl _⟩
  | set g r b l =>
    by_cases e : g = f
    · subst e
      have hl : look (adm1 s (.set g r b l)).fl g = some { x with rate := r, burst := b, cr := min x.cr (l * parts) } := by
        show look (arm _ _).fl g = _
        rw [arm_fl, look_upd _ _ _ (by intro x; rfl), hx, Option.map_some, if_pos hn]
      exact ⟨_, hl, by simp [rb], rfl, fun _ => Nat.min_le_left _ _⟩
    · exact ⟨x, by show look (arm _ _).fl f = _; rw [arm_fl, look_upd _ _ _ (by intro x; rfl), hx, Option.map_some, if_neg (by omega)], by simp [rb, e], rfl, fun _ => Nat.le_refl _⟩
  | enq g =>
    obtain ⟨u, hu, h⟩ := adm1_look s (.enq g) f
    rw [hx] at hu
    obtain ⟨h1, h2, h3, h4, h5⟩ := h x
    obtain ⟨a, b, c⟩ := h5 (by simp) (by simp) hn
    exact ⟨u x, hu, by rw [a, b]; rfl, h2, fun _ => by rw [c]; exact Nat.le_refl _⟩
theorem admit_rb (cs : List Cmd) (s : St) (f : Nat) {x : Fl} (hx : look s.fl f = some x) : ∃ y, look (admit s cs).fl f = some y ∧ (y.rate, y.burst) = rbs f (x.rate, x.burst) cs ∧ y.pk = x.pk ∧ ((∀ r b, .add f r b ∉ cs) → y.cr ≤ x.cr) := by
  induction cs generalizing s x with
  | nil => exact ⟨x, hx, rfl, rfl, fun _ => Nat.le_refl _⟩
  | cons c cs ih =>
    obtain ⟨y, h1, h2, h3, h4⟩ := adm1_rb s c f hx
    obtain ⟨z, k1, k2, k3, k4⟩ := ih (adm1 s c) h1
    refine ⟨z, k1, by rw [k2, h2]; rfl, by rw [k3, h3], fun h => ?_⟩
    have a1 := h4 fun r b e => h r b (by rw [e]; exact List.mem_cons_self ..)
    have a2 := k4 fun r b e => h r b (List.mem_cons_of_mem _ e)
    omega
theorem look_iff {l : List Fl} {n : Nat} : look l n = none ↔ n ∉ l.map (·.num) := by
  constructor
  · intro h hm
    obtain ⟨x, hx, e⟩ := List.mem_map.1 hm
    have := (List.find?_eq_none.1 h) x hx
    simp at this
    exact this e
  · intro h
    exact look_none fun x hx e => h (List.mem_map.2 ⟨x, hx, e⟩)
theorem look_tick {s : St} {now f : Nat} {x : Fl} (hx : look s.fl f = some x) : look (tick s now).fl f = some { x with cr := acc x.cr x.rate (x.burst * parts) (max s.clock now - s.clock) } := by
  show look (s.fl.map _) f = _
  rw [look_map (by intro x hx; rfl), hx]; rfl

/-- One Poll, as it was told: the clock; of how many flows; each one's rate, burst, and bytes. -/
structure En where
  ck : Nat
  n : Nat
  rt : Nat → Nat
  bu : Nat → Nat
  bt : Nat → Nat
def enD : En := ⟨0, 0, fun _ => 0, fun _ => 0, fun _ => 0⟩
def at' (L : List En) (i : Nat) : En := L.getD i enD
/-- How much a flow may have sent from the i-th Poll to the one d behind it; and how much it has. -/
noncomputable def rm (L : List En) (i f : Nat) : Nat → Nat
  | 0 => (at' L i).bu f * parts
  | d + 1 => rm L i f d + (at' L (i + d)).rt f * ((at' L (i + d + 1)).ck - (at' L (i + d)).ck)
def sm (L : List En) (i f : Nat) : Nat → Nat
  | 0 => (at' L i).bt f
  | d + 1 => sm L i f d + (at' L (i + d + 1)).bt f
theorem at_old {L : List En} {e : En} {i : Nat} (h : i < L.length) : at' (L ++ [e]) i = at' L i := by
  simp [at', List.getD, List.getElem?_append_left h]
theorem at_new {L : List En} {e : En} : at' (L ++ [e]) L.length = e := by simp [at', List.getD]
theorem rm_old {L : List En} {e : En} {i f d : Nat} (h : i + d < L.length) : rm (L ++ [e]) i f d = rm L i f d := by
  induction d with
  | zero => simp only [rm]; rw [at_old (by omega)]
  | succ d ih =>
    simp only [rm]
    rw [ih (by omega), at_old (by omega), at_old (by omega)]
theorem sm_old {L : List En} {e : En} {i f d : Nat} (h : i + d < L.length) : sm (L ++ [e]) i f d = sm L i f d := by
  induction d with
  | zero => simp only [sm]; rw [at_old (by omega)]
  | succ d ih =>
    simp only [sm]
    rw [ih (by omega), at_old (by omega)]

/-- What was told so far, and the pacer. -/
structure Wt (p : PS) (l : List (Nat × Nat)) (L : List En) : Prop where
  len : l.length = p.newest
  ask : ∀ f y, look p.st.fl f = some y → l[f - 1]? = some (rbs f (y.rate, y.burst) p.asks)
  cnt : ∀ i, i < L.length → (at' L i).n ≤ p.newest
  mono : ∀ i j, i ≤ j → j < L.length → (at' L i).n ≤ (at' L j).n
  ck : 0 < L.length → (at' L (L.length - 1)).ck = p.st.clock
  cks : ∀ i, i + 1 < L.length → (at' L i).ck ≤ (at' L (i + 1)).ck
  tr : ∀ i d f, i + d + 1 = L.length → f < (at' L i).n → ∀ x, look p.st.fl (f + 1) = some x → x.burst ≠ 0 ∧ x.rate = (at' L (i + d)).rt f ∧ sm L i f d * parts + x.cr ≤ rm L i f d
  all : ∀ i d f, i + d < L.length → f < (at' L i).n → sm L i f d * parts ≤ rm L i f d
  lim : ∀ i, i < L.length → ∀ f, f < (at' L i).n → (at' L i).rt f ≤ 1000000000 ∧ (at' L i).bu f ≤ 1000000
  ckm : ∀ i, i < L.length → (at' L i).ck ≤ 4000000000000000000
  ll : ∀ z ∈ l, z.1 ≤ 1000000000 ∧ z.2 ≤ 1000000

theorem Wt.new (q : Nat) : Wt (PS.new q) [] [] := by
  refine ⟨rfl, ?_, ?_, ?_, ?_, ?_, ?_, ?_, ?_, ?_, ?_⟩
  · intro f y h; simp [PS.new, look] at h
  · intro i h; cases h
  · intro i j _ h; cases h
  · intro h; cases h
  · intro i h; cases h
  · intro i d f h; simp at h
  · intro i d f h; cases h
  · intro i h; cases h
  · intro i h; cases h
  · intro z h; cases h
theorem Wt.add {p : PS} {l : List (Nat × Nat)} {L : List En} (h : Wt p l L) (hI : p.Inv) {r b : Nat} (hr : r ≤ 1000000000) (hb : b ≤ 1000000) : Wt (p.add r b) (l ++ [(r, b)]) L := by
  refine ⟨by simp [PS.add, h.len], ?_, fun i hi => Nat.le_trans (h.cnt i hi) (Nat.le_succ _), h.mono, h.ck, h.cks, ?_, h.all, h.lim, h.ckm, ?_⟩
  · intro f y hy
    have hy' : look (p.st.fl ++ [⟨p.newest + 1, 0, 0, 0, [], 0⟩]) f = some y := hy
    show (l ++ [(r, b)])[f - 1]? = some (rbs f (y.rate, y.burst) (p.asks ++ [.add (p.newest + 1) r b]))
    rw [rbs_append]
    by_cases e : p.newest + 1 = f
    · subst e
      have : rbs (p.newest + 1) (rbs (p.newest + 1) (y.rate, y.burst) p.asks) [.add (p.newest + 1) r b] = (r, b) := by simp [rbs, rb]
      rw [this, Nat.add_sub_cancel, ← h.len]
      simp
    · rw [look_append_new e] at hy'
      have hm := look_some hy'
      have hle := hI.le y hm.1
      have : rbs f (rbs f (y.rate, y.burst) p.asks) [.add (p.newest + 1) r b] = rbs f (y.rate, y.burst) p.asks := by simp [rbs, rb, e]
      rw [this, List.getElem?_append_left (by rw [h.len]; omega)]
      exact h.ask f y hy'
  · intro i d f hd hf x hx
    have hx' : look (p.st.fl ++ [⟨p.newest + 1, 0, 0, 0, [], 0⟩]) (f + 1) = some x := hx
    have := h.cnt i (by omega)
    rw [look_append_new (by show p.newest + 1 ≠ f + 1; omega)] at hx'
    exact h.tr i d f hd hf x hx'
  · intro z hz
    rcases List.mem_append.1 hz with q | q
    · exact h.ll z q
    · simp at q; subst q; exact ⟨hr, hb⟩
theorem Wt.set {p : PS} {l : List (Nat × Nat)} {L : List En} (h : Wt p l L) (hI : p.Inv) {f r b : Nat} (hf : 1 ≤ f) (hr : r ≤ 1000000000) (hb : b ≤ 1000000) : Wt (p.set f r b) (l.set (f - 1) (r, b)) L := by
  refine ⟨by simp [PS.set, h.len], ?_, h.cnt, h.mono, h.ck, h.cks, h.tr, h.all, h.lim, h.ckm, ?_⟩
  · intro g y hy
    have hm := look_some hy
    have hle := hI.le y hm.1
    show (l.set (f - 1) (r, b))[g - 1]? = some (rbs g (y.rate, y.burst) (p.asks ++ [.set f r b b]))
    rw [rbs_append, List.getElem?_set]
    by_cases e : f = g
    · subst e
      rw [if_pos rfl, if_pos (by rw [h.len]; omega)]
      simp [rbs, rb]
    · rw [if_neg (by omega)]
      have : rbs g (rbs g (y.rate, y.burst) p.asks) [.set f r b b] = rbs g (y.rate, y.burst) p.asks := by simp [rbs, rb, e]
      rw [this]
      exact h.ask g y hy
  · intro z hz
    rcases List.mem_or_eq_of_mem_set hz with q | q
    · exact h.ll z q
    · subst q; exact ⟨hr, hb⟩
theorem Wt.enq {p : PS} {l : List (Nat × Nat)} {L : List En} (h : Wt p l L) (f : Nat) (t : Int) (n : Nat) : Wt (p.enq f t n) l L := by
  have hl : ∀ g y, look (p.enq f t n).st.fl g = some y → ∃ x, look p.st.fl g = some x ∧ y.rate = x.rate ∧ y.burst = x.burst ∧ y.cr = x.cr := fun g y hy => by
    have hy' : look (upd p.st.fl f (withPk t n)) g = some y := hy
    rw [look_upd _ _ _ (by intro x; rfl)] at hy'
    cases hx : look p.st.fl g with
    | none => rw [hx] at hy'; cases hy'
    | some x =>
      rw [hx] at hy'
      simp at hy'
      refine ⟨x, rfl, ?_⟩
      subst hy'
      split <;> exact ⟨rfl, rfl, rfl⟩
  refine ⟨h.len, ?_, h.cnt, h.mono, h.ck, h.cks, ?_, h.all, h.lim, h.ckm, h.ll⟩
  · intro g y hy
    obtain ⟨x, hx, e1, e2, _⟩ := hl g y hy
    show l[g - 1]? = some (rbs g (y.rate, y.burst) (p.asks ++ [.enq f]))
    rw [rbs_append, e1, e2]
    exact h.ask g x hx
  · intro i d g hd hg y hy
    obtain ⟨x, hx, e1, e2, e3⟩ := hl (g + 1) y hy
    rw [e1, e2, e3]
    exact h.tr i d g hd hg x hx
theorem Wt.remove {p : PS} {l : List (Nat × Nat)} {L : List En} (h : Wt p l L) (f : Nat) : Wt (p.remove f) l L := by
  have hl : ∀ g y, look (p.remove f).st.fl g = some y → g ≠ f ∧ look p.st.fl g = some y := fun g y hy => by
    have hy' : look (gone p.st.fl f) g = some y := hy
    have hg : g ≠ f := by
      have hm := look_some hy'
      have := (mem_gone.1 hm.1).2
      omega
    rw [look_gone hg] at hy'
    exact ⟨hg, hy'⟩
  refine ⟨h.len, ?_, h.cnt, h.mono, h.ck, h.cks, ?_, h.all, h.lim, h.ckm, h.ll⟩
  · intro g y hy
    obtain ⟨hg, hx⟩ := hl g y hy
    show l[g - 1]? = some (rbs g (y.rate, y.burst) (p.asks.filter (·.flow ≠ f)))
    rw [rbs_filter hg]
    exact h.ask g y hx
  · intro i d g hd hg y hy
    obtain ⟨_, hx⟩ := hl (g + 1) y hy
    exact h.tr i d g hd hg y hx
/-- The entry of a Poll. -/
def enOf (ck : Nat) (l : List (Nat × Nat)) (bs : List (Nat × Nat × List (Int × Nat))) : En := ⟨ck, l.length, fun f => (l.getD f (0, 0)).1, fun f => (l.getD f (0, 0)).2, fun f => bytes (pksOf (f + 1) bs)⟩
theorem acc_up (c r m t : Nat) : acc c r m t ≤ c + r * t := by unfold acc; omega
theorem Wt.poll {p : PS} {l : List (Nat × Nat)} {L : List En} (h : Wt p l L) (hI : p.Inv) {now : Nat} (hn : now ≤ 4000000000000000000) (B : Nat) : Wt (p.poll now B).2 l (L ++ [enOf (max p.st.clock now) l (p.poll now B).1]) := by
  have hpi := (hI.pi.tick hn).admit
  have hck : (p.poll now B).2.st.clock = max p.st.clock now := by
    show (rel B (admit (tick p.st now) p.asks)).2.clock = _
    have h1 : ∀ n s, (rel n s).2.clock = s.clock := by
      intro n
      induction n with
      | zero => intro s; rfl
      | succ n ih =>
        intro s
        unfold rel
        split
        · rfl
        · rw [ih]
          show (arm _ _).clock = _
          rw [arm_clock]
    have h2 : ∀ cs s, (admit s cs).clock = s.clock := by
      intro cs
      induction cs with
      | nil => intro s; rfl
      | cons c cs ih =>
        intro s
        show (admit (adm1 s c) cs).clock = _
        rw [ih]
        cases c with
        | add _ _ _ => rfl
        | set _ _ _ _ => show (arm _ _).clock = _; rw [arm_clock]
        | enq g =>
          unfold adm1
          simp only
          split
          · rfl
          · split
            · rw [arm_clock]
            · rfl
    rw [h1, h2]; rfl
  have hF : ∀ g x, look p.st.fl g = some x → ∃ y y2, look (admit (tick p.st now) p.asks).fl g = some y ∧ look (p.poll now B).2.st.fl g = some y2 ∧ (y.rate, y.burst) = rbs g (x.rate, x.burst) p.asks ∧ y2.rate = y.rate ∧ y2.burst = y.burst ∧ y2.cr + bytes (pksOf g (p.poll now B).1) * parts = y.cr ∧ ((∀ r b, .add g r b ∉ p.asks) → y.cr ≤ x.cr + x.rate * (max p.st.clock now - p.st.clock)) := fun g x hx => by
    obtain ⟨y, h1, h2, h3, h4⟩ := admit_rb p.asks _ g (look_tick (now := now) hx)
    obtain ⟨y2, k1, k2, k3, _, k4, _⟩ := hpi.rel_flow B g h1
    refine ⟨y, y2, h1, k1, h2, k2, k3, k4, fun hh => Nat.le_trans (h4 hh) (acc_up _ _ _ _)⟩
  have hnone : ∀ g, look (p.poll now B).2.st.fl g = none ↔ look p.st.fl g = none := fun g => by rw [look_iff, look_iff, PS.poll_nums]
  have hsome : ∀ g y2, look (p.poll now B).2.st.fl g = some y2 → ∃ x, look p.st.fl g = some x := fun g y2 hy => by
    cases hx : look p.st.fl g with
    | some x => exact ⟨x, rfl⟩
    | none => rw [(hnone g).2 hx] at hy; cases hy
  have hzero : ∀ g, look p.st.fl g = none → pksOf g (p.poll now B).1 = [] := fun g hg => by
    refine hpi.rel_none B g ?_
    rw [look_iff, admit_nums, tick_nums, ← look_iff]; exact hg
  have hgd : ∀ g x, look p.st.fl (g + 1) = some x → l.getD g (0, 0) = rbs (g + 1) (x.rate, x.burst) p.asks := fun g x hx => by
    have := h.ask (g + 1) x hx
    rw [Nat.add_sub_cancel] at this
    simp [List.getD, this]
  have hT : ∀ {i}, i < L.length → at' (L ++ [enOf (max p.st.clock now) l (p.poll now B).1]) i = at' L i := fun hi => at_old hi
  have hlen : (L ++ [enOf (max p.st.clock now) l (p.poll now B).1]).length = L.length + 1 := by simp
  -- the new entry's own
  have hown : ∀ f, f < l.length → bytes (pksOf (f + 1) (p.poll now B).1) * parts + (match look (p.poll now B).2.st.fl (f + 1) with | some y2 => y2.cr | none => 0) ≤ (l.getD f (0, 0)).2 * parts := fun f hf => by
    cases hx : look p.st.fl (f + 1) with
    | none =>
      rw [hzero _ hx, (hnone _).2 hx]
      simp [bytes]
    | some x =>
      obtain ⟨y, y2, h1, h2, h3, h4, h5, h6, h7⟩ := hF _ x hx
      rw [h2, hgd f x hx, ← h3]
      have := (hpi.wf.F y (look_some h1).1).cr
      show _ + y2.cr ≤ y.burst * parts
      omega
  have hstep : ∀ i d f, i + d + 1 = L.length → f < (at' L i).n → (∀ x, look p.st.fl (f + 1) = some x → x.burst ≠ 0 ∧ x.rate = (at' L (i + d)).rt f ∧ sm L i f d * parts + x.cr ≤ rm L i f d) → sm L i f d * parts ≤ rm L i f d →
      sm (L ++ [enOf (max p.st.clock now) l (p.poll now B).1]) i f (d + 1) * parts + (match look (p.poll now B).2.st.fl (f + 1) with | some y2 => y2.cr | none => 0) ≤ rm (L ++ [enOf (max p.st.clock now) l (p.poll now B).1]) i f (d + 1) := fun i d f hd hf htr hall => by
    have e1 : i + d + 1 = L.length := hd
    simp only [sm, rm]
    rw [sm_old (by omega), rm_old (by omega), e1, at_new, hT (by omega)]
    have hcl := h.ck (by omega)
    have e2 : L.length - 1 = i + d := by omega
    rw [e2] at hcl
    show (sm L i f d + bytes (pksOf (f + 1) (p.poll now B).1)) * parts + _ ≤ rm L i f d + (at' L (i + d)).rt f * (max p.st.clock now - (at' L (i + d)).ck)
    rw [hcl]
    cases hx : look p.st.fl (f + 1) with
    | none =>
      rw [hzero _ hx, (hnone _).2 hx]
      simp [bytes]
      omega
    | some x =>
      obtain ⟨t1, t2, t3⟩ := htr x hx
      obtain ⟨y, y2, h1, h2, h3, h4, h5, h6, h7⟩ := hF _ x hx
      have hna : ∀ r b, .add (f + 1) r b ∉ p.asks := fun r b hm => by
        have hxm := look_some hx
        have := hI.pi.add x hxm.1 t1 r b
        rw [hxm.2] at this
        exact this hm
      have h8 := h7 hna
      rw [h2, ← t2, Nat.add_mul]
      show _ + y2.cr ≤ _
      omega
  refine ⟨?_, ?_, ?_, ?_, ?_, ?_, ?_, ?_, ?_, ?_, h.ll⟩
  · exact h.len
  · intro g y2 hy
    obtain ⟨x, hx⟩ := hsome g y2 hy
    obtain ⟨y, z, h1, h2, h3, h4, h5, _⟩ := hF g x hx
    rw [h2] at hy
    injection hy with hy
    subst hy
    show l[g - 1]? = some (z.rate, z.burst)
    rw [h4, h5, h3]
    exact h.ask g x hx
  · intro i hi
    rw [hlen] at hi
    by_cases e : i = L.length
    · subst e; rw [at_new]; show l.length ≤ _; rw [h.len]; exact Nat.le_refl _
    · rw [hT (by omega)]; exact h.cnt i (by omega)
  · intro i j hij hj
    rw [hlen] at hj
    by_cases e : j = L.length
    · subst e
      rw [at_new]
      by_cases e2 : i = L.length
      · subst e2; rw [at_new]; exact Nat.le_refl _
      · rw [hT (by omega)]; show _ ≤ l.length; rw [h.len]; exact h.cnt i (by omega)
    · rw [hT (by omega), hT (by omega)]; exact h.mono i j hij (by omega)
  · intro _
    rw [hlen, Nat.add_sub_cancel, at_new, hck]; rfl
  · intro i hi
    rw [hlen] at hi
    by_cases e : i + 1 = L.length
    · rw [hT (by omega), e, at_new]
      have := h.ck (by omega)
      have e2 : L.length - 1 = i := by omega
      rw [e2] at this
      rw [this]; show _ ≤ max p.st.clock now; omega
    · rw [hT (by omega), hT (by omega)]; exact h.cks i (by omega)
  · intro i d f hd hf y2 hy
    rw [hlen] at hd
    obtain ⟨x, hx⟩ := hsome _ y2 hy
    obtain ⟨y, z, h1, h2, h3, h4, h5, h6, h7⟩ := hF _ x hx
    have hyz : y2 = z := by rw [h2] at hy; exact (Option.some.inj hy).symm
    subst hyz
    have hb : y2.burst ≠ 0 := fun e => by
      rw [h5] at e
      obtain ⟨r, b, q⟩ := hpi.fst y (look_some h1).1 e
      cases q
    have hr : y2.rate = (l.getD f (0, 0)).1 := by rw [h4, hgd f x hx, ← h3]
    have hlast : at' (L ++ [enOf (max p.st.clock now) l (p.poll now B).1]) (i + d) = enOf (max p.st.clock now) l (p.poll now B).1 := by
      have : i + d = L.length := by omega
      rw [this, at_new]
    refine ⟨hb, by rw [hlast]; exact hr, ?_⟩
    cases d with
    | zero =>
      have ei : i = L.length := by omega
      subst ei
      rw [at_new] at hf
      simp only [sm, rm]
      rw [at_new]
      have := hown f hf
      rw [h2] at this
      exact this
    | succ d =>
      rw [hT (by omega)] at hf
      have := hstep i d f (by omega) hf (h.tr i d f (by omega) hf) (h.all i d f (by omega) hf)
      rw [h2] at this
      exact this
  · intro i d f hd hf
    rw [hlen] at hd
    by_cases e : i + d < L.length
    · rw [hT (by omega)] at hf
      rw [sm_old e, rm_old e]; exact h.all i d f e hf
    · cases d with
      | zero =>
        have ei : i = L.length := by omega
        subst ei
        rw [at_new] at hf
        simp only [sm, rm]
        rw [at_new]
        have := hown f hf
        show bytes (pksOf (f + 1) (p.poll now B).1) * parts ≤ (l.getD f (0, 0)).2 * parts
        omega
      | succ d =>
        rw [hT (by omega)] at hf
        have := hstep i d f (by omega) hf (h.tr i d f (by omega) hf) (h.all i d f (by omega) hf)
        omega
  · intro i hi f hf
    rw [hlen] at hi
    by_cases e : i = L.length
    · subst e
      rw [at_new] at hf ⊢
      have hf' : f < l.length := hf
      have hm : l.getD f (0, 0) ∈ l := by
        rw [List.getD, List.getElem?_eq_getElem hf']
        exact List.getElem_mem hf'
      exact h.ll _ hm
    · rw [hT (by omega)] at hf ⊢; exact h.lim i (by omega) f hf
  · intro i hi
    rw [hlen] at hi
    by_cases e : i = L.length
    · subst e; rw [at_new]
      have := hI.pi.wf.clock
      show max p.st.clock now ≤ _
      omega
    · rw [hT (by omega)]; exact h.ckm i (by omega)
end Pace
end Go.Proofs.YtogdekjklbbbiaaDoor

namespace Go.Proofs.YtogdekjklbbbiaaDoor
namespace Pace
set_option linter.unusedSimpArgs false
set_option linter.unusedVariables false

/-! ### Each packet is told once -/
structure Ln where
  tags : List Int
  told : Nat
  last : Nat
  gone : Bool
def lnD : Ln := ⟨[], 0, 0, false⟩
def tagsOf (l : List (Int × Nat)) : List Int := l.map (·.1)
structure OI (s : St) (l : List Ln) : Prop where
  fl : ∀ x ∈ s.fl, ∃ z, l[x.num - 1]? = some z ∧ 1 ≤ x.num ∧ z.gone = false ∧ z.tags.drop z.told = tagsOf x.pk ∧ z.told ≤ z.tags.length ∧ z.last ≤ s.clock
  ar : ∀ a ∈ s.A, ∀ z, l[a.num - 1]? = some z → z.last ≤ a.at'
  off : ∀ k z, l[k]? = some z → (∀ x ∈ s.fl, x.num ≠ k + 1) → z.gone = true ∧ z.told = z.tags.length
theorem OI.arm {s : St} {l : List Ln} (h : OI s l) (n : Nat) : OI (arm s n) l := by
  refine ⟨?_, ?_, ?_⟩
  · intro x hx
    rw [arm_fl] at hx
    rw [arm_clock]
    exact h.fl x hx
  · intro a ha z hz
    unfold Pace.arm at ha
    split at ha
    · exact h.ar a ha z hz
    · rename_i f hf
      obtain ⟨hm, hn⟩ := look_some hf
      split at ha
      · rcases List.mem_append.1 ha with q | q
        · exact h.ar a (mem_off.1 q).1 z hz
        · simp at q
          subst q
          obtain ⟨z', hz', _, _, _, _, hl⟩ := h.fl f hm
          rw [hn] at hz'
          have hz2 : l[n - 1]? = some z := hz
          rw [hz'] at hz2
          injection hz2 with e
          subst e
          show _ ≤ s.clock + _
          omega
      · exact h.ar a (mem_off.1 ha).1 z hz
  · intro k z hz hn
    rw [arm_fl] at hn
    exact h.off k z hz hn
/-- What matters of a flow is its number and its packets. -/
theorem OI.flows {s s' : St} {l : List Ln} (h : OI s l) (g : Fl → Fl) (hg : ∀ x ∈ s.fl, (g x).num = x.num ∧ (g x).pk = x.pk) (hfl : s'.fl = s.fl.map g) (hA : s'.A = s.A) (hck : s.clock ≤ s'.clock) : OI s' l := by
  refine ⟨?_, ?_, ?_⟩
  · intro x hx
    rw [hfl] at hx
    obtain ⟨y, hy, rfl⟩ := List.mem_map.1 hx
    obtain ⟨z, h1, h2, h3, h4, h5, h6⟩ := h.fl y hy
    rw [(hg y hy).1, (hg y hy).2]
    exact ⟨z, h1, h2, h3, h4, h5, Nat.le_trans h6 hck⟩
  · rw [hA]; exact h.ar
  · intro k z hz hn
    refine h.off k z hz fun x hx => ?_
    rw [← (hg x hx).1]
    exact hn (g x) (by rw [hfl]; exact List.mem_map.2 ⟨x, hx, rfl⟩)
theorem OI.upd {s : St} {l : List Ln} (h : OI s l) (n : Nat) (u : Fl → Fl) (hu : ∀ x, (u x).num = x.num ∧ (u x).pk = x.pk) : OI { s with fl := Pace.upd s.fl n u } l := by
  refine h.flows (fun f => if f.num = n then u f else f) (fun x _ => ?_) rfl rfl (Nat.le_refl _)
  split
  · exact hu x
  · exact ⟨rfl, rfl⟩
theorem OI.adm1 {s : St} {l : List Ln} (h : OI s l) (c : Cmd) : OI (adm1 s c) l := by
  cases c with
  | add f r b => exact h.upd f _ fun x => ⟨rfl, rfl⟩
  | set f r b m => exact (h.upd f (fun x => { x with rate := r, burst := b, cr := min x.cr (m * parts) }) fun x => ⟨rfl, rfl⟩).arm f
  | enq f =>
    unfold Pace.adm1
    simp only
    split
    · exact h
    · split
      · exact (h.upd f (fun x => { x with adm := x.adm + 1 }) fun x => ⟨rfl, rfl⟩).arm f
      · exact h.upd f (fun x => { x with adm := x.adm + 1 }) fun x => ⟨rfl, rfl⟩
theorem OI.admit {s : St} {l : List Ln} (h : OI s l) (cs : List Cmd) : OI (admit s cs) l := by
  induction cs generalizing s with
  | nil => exact h
  | cons c cs ih => exact ih (h.adm1 c)
theorem OI.tick {s : St} {l : List Ln} (h : OI s l) (now : Nat) : OI (tick s now) l := h.flows (fun f => { f with cr := acc f.cr f.rate (f.burst * parts) (max s.clock now - s.clock) }) (fun x _ => ⟨rfl, rfl⟩) rfl rfl (Nat.le_max_left _ _)
/-- A batch that may be told. -/
structure SOk (ck : Nat) (l : List Ln) (q : Nat × Nat × List (Int × Nat)) (z : Ln) : Prop where
  num : 1 ≤ q.1
  at' : l[q.1 - 1]? = some z
  gone : z.gone = false
  last : z.last ≤ q.2.1
  ck : q.2.1 ≤ ck
  tags : ∃ r, z.tags.drop z.told = tagsOf q.2.2 ++ r
  told : z.told ≤ z.tags.length
  pos : q.2.2 ≠ []
def tell (l : List Ln) (q : Nat × Nat × List (Int × Nat)) (z : Ln) : List Ln := l.set (q.1 - 1) { z with told := z.told + q.2.2.length, last := q.2.1 }
inductive Sents (ck : Nat) : List Ln → List (Nat × Nat × List (Int × Nat)) → List Ln → Prop
  | nil (l) : Sents ck l [] l
  | cons {l l' q bs z} : SOk ck l q z → Sents ck (tell l q z) bs l' → Sents ck l (q :: bs) l'
theorem tagsOf_length (l : List (Int × Nat)) : (tagsOf l).length = l.length := by simp [tagsOf]
theorem OI.send {s : St} {l : List Ln} (h : OI s l) (hp : PI s []) {a : Ar} (ha : a ∈ s.A) (hc : a.at' ≤ s.clock) : ∃ z, SOk s.clock l (send s a).1 z ∧ OI (send s a).2 (tell l (send s a).1 z) ∧ PI (send s a).2 [] ∧ (send s a).2.clock = s.clock := by
  obtain ⟨x, hx, hxn, hlx, hk, hk2, hgot, hsent, hfl, h'⟩ := hp.send ha hc
  obtain ⟨z, h1, h2, h3, h4, h5, h6⟩ := h.fl x hx
  have hcl : (Pace.send s a).2.clock = s.clock := by show (Pace.arm _ _).clock = _; rw [arm_clock]
  have hadm := (hp.wf.F x hx).adm
  refine ⟨z, ?_, ?_, h', hcl⟩
  · rw [hsent]
    refine ⟨by show 1 ≤ a.num; omega, by show l[a.num - 1]? = _; rw [← hxn]; exact h1, h3, h.ar a ha z (by rw [← hxn]; exact h1), hc, ⟨tagsOf (x.pk.drop a.k), ?_⟩, h5, ?_⟩
    · show _ = tagsOf (x.pk.take a.k) ++ _
      rw [h4]
      simp only [tagsOf]
      rw [← List.map_append, List.take_append_drop]
    · show x.pk.take a.k ≠ []
      intro e
      have := congrArg List.length e
      rw [List.length_take, List.length_nil] at this
      omega
  · show OI (Pace.arm { s with fl := Pace.upd s.fl a.num (sentFl a.k), A := Pace.off s.A a.num } a.num) _
    refine OI.arm ⟨?_, ?_, ?_⟩ a.num
    · intro y hy
      rw [hsent]
      obtain ⟨y0, hy0, ⟨e1, e2⟩ | ⟨e1, e2⟩⟩ := mem_upd hy
      · have hyx : y0 = x := by
          have := look_of_mem hp.wf.nums hy0
          rw [e1, hlx] at this
          exact (Option.some.inj this).symm
        subst hyx
        subst e2
        refine ⟨{ z with told := z.told + (y0.pk.take a.k).length, last := a.at' }, ?_, h2, h3, ?_, ?_, hc⟩
        · show (l.set (a.num - 1) _)[y0.num - 1]? = _
          rw [hxn, List.getElem?_set, if_pos rfl, if_pos]
          have := (List.getElem?_eq_some_iff.1 h1).1
          rw [hxn] at this; exact this
        · show z.tags.drop (z.told + (y0.pk.take a.k).length) = tagsOf (y0.pk.drop a.k)
          rw [← List.drop_drop, h4, tagsOf, tagsOf, List.length_take, Nat.min_eq_left (by omega), List.map_drop]
        · show z.told + (y0.pk.take a.k).length ≤ z.tags.length
          have := congrArg List.length h4
          rw [List.length_drop, tagsOf_length] at this
          rw [List.length_take]
          omega
      · subst e2
        obtain ⟨z', k1, k2, k3, k4, k5, k6⟩ := h.fl y hy0
        refine ⟨z', ?_, k2, k3, k4, k5, k6⟩
        show (l.set (a.num - 1) _)[y.num - 1]? = _
        rw [List.getElem?_set, if_neg (by omega)]
        exact k1
    · intro b hb z' hz'
      rw [hsent] at hz'
      have hbm := mem_off.1 hb
      have hz2 : (l.set (a.num - 1) _)[b.num - 1]? = some z' := hz'
      obtain ⟨xb, hxb, _⟩ := hp.wf.A b hbm.1
      obtain ⟨hbm2, hbn⟩ := look_some hxb
      obtain ⟨_, _, k2, _⟩ := h.fl xb hbm2
      have := hbm.2
      rw [List.getElem?_set, if_neg (by omega)] at hz2
      exact h.ar b hbm.1 z' hz2
    · intro k z' hz' hn
      rw [hsent] at hz'
      have hz2 : (l.set (a.num - 1) _)[k]? = some z' := hz'
      have hka : k + 1 ≠ a.num := fun e => by
        refine hn (sentFl a.k x) ?_ (by show x.num = k + 1; omega)
        show _ ∈ s.fl.map _
        exact List.mem_map.2 ⟨x, hx, if_pos hxn⟩
      rw [List.getElem?_set, if_neg (by omega)] at hz2
      refine h.off k z' hz2 fun y hy e => ?_
      refine hn y ?_ e
      show _ ∈ s.fl.map _
      exact List.mem_map.2 ⟨y, hy, if_neg (by omega)⟩
theorem OI.rel {s : St} {l : List Ln} (h : OI s l) (hp : PI s []) (n : Nat) : ∃ l', Sents s.clock l (rel n s).1 l' ∧ OI (rel n s).2 l' ∧ l'.length = l.length := by
  induction n generalizing s l with
  | zero => exact ⟨l, .nil l, h, rfl⟩
  | succ n ih =>
    unfold Pace.rel
    split
    · exact ⟨l, .nil l, h, rfl⟩
    · rename_i a q
      obtain ⟨q1, q2⟩ := due_some q
      obtain ⟨z, h1, h2, h3, h4⟩ := h.send hp (best_some q1).1 q2
      obtain ⟨l', k1, k2, k3⟩ := ih h2 h3
      rw [h4] at k1
      exact ⟨l', .cons h1 k1, k2, by rw [k3]; simp [tell]⟩
theorem OI.poll {p : PS} {l : List Ln} (h : OI p.st l) (hI : p.Inv) {now : Nat} (hn : now ≤ 4000000000000000000) (B : Nat) : ∃ l', Sents (max p.st.clock now) l (p.poll now B).1 l' ∧ OI (p.poll now B).2.st l' ∧ l'.length = l.length := by
  have hck : ∀ cs s, (Pace.admit s cs).clock = s.clock := by
    intro cs
    induction cs with
    | nil => intro s; rfl
    | cons c cs ih =>
      intro s
      show (Pace.admit (Pace.adm1 s c) cs).clock = _
      rw [ih]
      cases c with
      | add _ _ _ => rfl
      | set _ _ _ _ => show (Pace.arm _ _).clock = _; rw [arm_clock]
      | enq g =>
        unfold Pace.adm1
        simp only
        split
        · rfl
        · split
          · rw [arm_clock]
          · rfl
  obtain ⟨l', h1, h2, h3⟩ := ((h.tick now).admit p.asks).rel ((hI.pi.tick hn).admit) B
  rw [hck] at h1
  exact ⟨l', h1, h2, h3⟩
theorem OI.new (q : Nat) : OI (PS.new q).st [] := by
  refine ⟨?_, ?_, ?_⟩
  · intro x hx; cases hx
  · intro x hx; cases hx
  · intro k z hz; simp at hz
theorem OI.add {p : PS} {l : List Ln} (h : OI p.st l) (hI : p.Inv) (hl : l.length = p.newest) (r b : Nat) : OI (p.add r b).st (l ++ [lnD]) := by
  refine ⟨?_, ?_, ?_⟩
  · intro x hx
    rcases List.mem_append.1 (show x ∈ p.st.fl ++ [⟨p.newest + 1, 0, 0, 0, [], 0⟩] from hx) with q | q
    · obtain ⟨z, h1, h2⟩ := h.fl x q
      refine ⟨z, ?_, h2⟩
      rw [List.getElem?_append_left (List.getElem?_eq_some_iff.1 h1).1]; exact h1
    · simp at q
      subst q
      refine ⟨lnD, ?_, by show 1 ≤ p.newest + 1; omega, rfl, rfl, Nat.le_refl _, Nat.zero_le _⟩
      show (l ++ [lnD])[p.newest + 1 - 1]? = _
      rw [Nat.add_sub_cancel, ← hl]; simp
  · intro a ha z hz
    obtain ⟨x, hx, _⟩ := hI.pi.wf.A a ha
    obtain ⟨hm, hn⟩ := look_some hx
    obtain ⟨z', h1, _⟩ := h.fl x hm
    rw [hn] at h1
    rw [List.getElem?_append_left (List.getElem?_eq_some_iff.1 h1).1] at hz
    exact h.ar a ha z hz
  · intro k z hz hn
    by_cases e : k < l.length
    · rw [List.getElem?_append_left e] at hz
      exact h.off k z hz fun x hx => hn x (List.mem_append_left _ hx)
    · exfalso
      have hk := (List.getElem?_eq_some_iff.1 hz).1
      simp at hk
      refine hn ⟨p.newest + 1, 0, 0, 0, [], 0⟩ ?_ ?_
      · exact List.mem_append_right _ (by simp)
      · show p.newest + 1 = k + 1; omega
theorem OI.enq {p : PS} {l : List Ln} (h : OI p.st l) (hI : p.Inv) {f : Nat} {x : Fl} (hx : x ∈ p.st.fl) (hn : x.num = f) (t : Int) (n : Nat) : ∃ z, l[f - 1]? = some z ∧ z.gone = false ∧ OI (p.enq f t n).st (l.set (f - 1) { z with tags := z.tags ++ [t] }) := by
  obtain ⟨z, h1, h2, h3, h4, h5, h6⟩ := h.fl x hx
  rw [hn] at h1
  have hlt := (List.getElem?_eq_some_iff.1 h1).1
  refine ⟨z, h1, h3, ?_, ?_, ?_⟩
  · intro y hy
    obtain ⟨y0, hy0, ⟨e1, e2⟩ | ⟨e1, e2⟩⟩ := mem_upd (show y ∈ Pace.upd p.st.fl f (withPk t n) from hy)
    · have hyx : y0 = x := by
        have a1 := look_of_mem hI.pi.wf.nums hy0
        have a2 := look_of_mem hI.pi.wf.nums hx
        rw [e1] at a1
        rw [hn, a1] at a2
        exact Option.some.inj a2
      subst hyx
      subst e2
      refine ⟨{ z with tags := z.tags ++ [t] }, ?_, h2, h3, ?_, ?_, h6⟩
      · show (l.set (f - 1) _)[y0.num - 1]? = _
        rw [e1, List.getElem?_set, if_pos rfl, if_pos hlt]
      · show (z.tags ++ [t]).drop z.told = tagsOf (y0.pk ++ [(t, n)])
        rw [List.drop_append_of_le_length h5, h4]
        simp [tagsOf]
      · show z.told ≤ (z.tags ++ [t]).length
        rw [List.length_append]; omega
    · subst e2
      obtain ⟨z', k1, k2, k3⟩ := h.fl y hy0
      refine ⟨z', ?_, k2, k3⟩
      rw [List.getElem?_set, if_neg (by omega)]; exact k1
  · intro a ha z' hz'
    obtain ⟨xa, hxa, _⟩ := hI.pi.wf.A a ha
    obtain ⟨hm, hna⟩ := look_some hxa
    obtain ⟨_, _, ka, _⟩ := h.fl xa hm
    rw [List.getElem?_set] at hz'
    by_cases e : f - 1 = a.num - 1
    · rw [if_pos e, if_pos hlt] at hz'
      injection hz' with hz'
      subst hz'
      exact h.ar a ha z (by rw [← e]; exact h1)
    · rw [if_neg e] at hz'
      exact h.ar a ha z' hz'
  · intro k z' hz' hnn
    have hkf : k ≠ f - 1 := fun e => by
      refine hnn (withPk t n x) ?_ (by show x.num = k + 1; omega)
      show _ ∈ p.st.fl.map _
      exact List.mem_map.2 ⟨x, hx, if_pos hn⟩
    rw [List.getElem?_set, if_neg (by omega)] at hz'
    refine h.off k z' hz' fun y hy e => ?_
    refine hnn y ?_ e
    show _ ∈ p.st.fl.map _
    exact List.mem_map.2 ⟨y, hy, if_neg (by omega)⟩
theorem OI.remove {p : PS} {l : List Ln} (h : OI p.st l) {f : Nat} {x : Fl} (hx : x ∈ p.st.fl) (hn : x.num = f) (hI : p.Inv) : ∃ z, l[f - 1]? = some z ∧ z.gone = false ∧ z.tags.drop z.told = tagsOf x.pk ∧ z.told + x.pk.length = z.tags.length ∧ OI (p.remove f).st (l.set (f - 1) { z with told := z.told + x.pk.length, gone := true }) := by
  obtain ⟨z, h1, h2, h3, h4, h5, h6⟩ := h.fl x hx
  rw [hn] at h1
  have hlt := (List.getElem?_eq_some_iff.1 h1).1
  have htl : z.told + x.pk.length = z.tags.length := by
    have := congrArg List.length h4
    rw [List.length_drop, tagsOf_length] at this
    omega
  refine ⟨z, h1, h3, h4, htl, ?_, ?_, ?_⟩
  · intro y hy
    have hy' := mem_gone.1 (show y ∈ gone p.st.fl f from hy)
    obtain ⟨z', k1, k2, k3⟩ := h.fl y hy'.1
    refine ⟨z', ?_, k2, k3⟩
    have := hy'.2
    rw [List.getElem?_set, if_neg (by omega)]; exact k1
  · intro a ha z' hz'
    have ha' := mem_off.1 (show a ∈ Pace.off p.st.A f from ha)
    obtain ⟨xa, hxa, _⟩ := hI.pi.wf.A a ha'.1
    obtain ⟨hm, hna⟩ := look_some hxa
    obtain ⟨_, _, ka, _⟩ := h.fl xa hm
    have := ha'.2
    rw [List.getElem?_set, if_neg (by omega)] at hz'
    exact h.ar a ha'.1 z' hz'
  · intro k z' hz' hnn
    rw [List.getElem?_set] at hz'
    by_cases e : f - 1 = k
    · rw [if_pos e, if_pos (by omega)] at hz'
      injection hz' with hz'
      subst hz'
      exact ⟨rfl, htl⟩
    · rw [if_neg e] at hz'
      refine h.off k z' hz' fun y hy ey => ?_
      exact hnn y (mem_gone.2 ⟨hy, by omega⟩) ey
end Pace
end Go.Proofs.YtogdekjklbbbiaaDoor

namespace Go.Proofs.YtogdekjklbbbiaaDoor
namespace Pace
set_option linter.unusedSimpArgs false
set_option linter.unusedVariables false

/-! ### The counts add up -/
def tot (bs : List (Nat × Nat × List (Int × Nat))) : Nat := (bs.map (·.2.2.length)).sum
theorem waits_map {l m : List Fl} (h : l.map (·.pk) = m.map (·.pk)) : waits l = waits m := by
  have e : ∀ l : List Fl, waits l = ((l.map (·.pk)).map List.length).sum := fun l => by simp [waits, List.map_map, Function.comp_def]
  rw [e, e, h]
theorem upd_pks (l : List Fl) (n : Nat) {u : Fl → Fl} (hu : ∀ x, (u x).pk = x.pk) : (upd l n u).map (·.pk) = l.map (·.pk) := by
  unfold upd
  rw [List.map_map]
  refine List.map_congr_left fun x _ => ?_
  show (if x.num = n then u x else x).pk = x.pk
  split
  · exact hu x
  · rfl
theorem adm1_pks (s : St) (c : Cmd) : (adm1 s c).fl.map (·.pk) = s.fl.map (·.pk) := by
  cases c with
  | add f r b => exact upd_pks _ _ fun x => rfl
  | set f r b l => show (arm _ _).fl.map _ = _; rw [arm_fl]; exact upd_pks _ _ fun x => rfl
  | enq f =>
    unfold adm1
    simp only
    split
    · rfl
    · split
      · rw [arm_fl]; exact upd_pks _ _ fun x => rfl
      · exact upd_pks _ _ fun x => rfl
theorem admit_pks (cs : List Cmd) (s : St) : (admit s cs).fl.map (·.pk) = s.fl.map (·.pk) := by
  induction cs generalizing s with
  | nil => rfl
  | cons c cs ih => exact (ih (adm1 s c)).trans (adm1_pks s c)
theorem rel_waits {s : St} (h : PI s []) (n : Nat) : tot (rel n s).1 + waits (rel n s).2.fl = waits s.fl := by
  induction n generalizing s with
  | zero => simp [rel, tot]
  | succ n ih =>
    unfold rel
    split
    · simp [tot]
    · rename_i a q
      obtain ⟨q1, q2⟩ := due_some q
      obtain ⟨x, hx, hxn, hlx, hk, hk2, hgot, hsent, hfl, h'⟩ := h.send (best_some q1).1 q2
      have hadm := (h.wf.F x hx).adm
      have h1 := ih h'
      have h2 := waits_upd h.wf.nums hx a.k (by omega)
      have h3 : (send s a).2.fl = upd s.fl x.num (sentFl a.k) := by
        show (arm _ _).fl = _
        rw [arm_fl, hxn]
      rw [← h3] at h2
      show tot ((send s a).1 :: (rel n (send s a).2).1) + waits (rel n (send s a).2).2.fl = _
      have h4 : tot ((send s a).1 :: (rel n (send s a).2).1) = a.k + tot (rel n (send s a).2).1 := by
        rw [hsent]
        simp only [tot, List.map_cons, List.sum_cons]
        rw [List.length_take, Nat.min_eq_left (by omega)]
      rw [h4]
      omega
theorem poll_waits {p : PS} (hI : p.Inv) {now : Nat} (hn : now ≤ 4000000000000000000) (B : Nat) : tot (p.poll now B).1 + waits (p.poll now B).2.st.fl = waits p.st.fl := by
  have h1 := rel_waits ((hI.pi.tick hn).admit) B
  have h2 : waits (admit (tick p.st now) p.asks).fl = waits p.st.fl := by
    refine waits_map ?_
    rw [admit_pks]
    show (p.st.fl.map _).map _ = _
    rw [List.map_map]
    rfl
  rw [h2] at h1
  exact h1
theorem waits_enq {l : List Fl} (hn : (l.map (·.num)).Nodup) {x : Fl} (hx : x ∈ l) (t : Int) (k : Nat) : waits (upd l x.num (withPk t k)) = waits l + 1 := by
  induction l with
  | nil => cases hx
  | cons y l ih =>
    simp only [List.map_cons, List.nodup_cons] at hn
    simp only [upd, List.map_cons, waits, List.sum_cons] at ih ⊢
    rcases List.mem_cons.1 hx with rfl | hx
    · rw [if_pos rfl]
      have e : l.map (fun f => if f.num = x.num then withPk t k f else f) = l := by
        conv => rhs; rw [← List.map_id l]
        refine List.map_congr_left fun z hz => ?_
        rw [if_neg fun q => hn.1 (List.mem_map.2 ⟨z, hz, q⟩)]
        rfl
      rw [e]
      simp [withPk]
      omega
    · have hne : y.num ≠ x.num := fun q => hn.1 (List.mem_map.2 ⟨x, hx, q.symm⟩)
      rw [if_neg hne, ih hn.2 hx]
      omega
theorem waits_gone {l : List Fl} (hn : (l.map (·.num)).Nodup) {x : Fl} (hx : x ∈ l) : waits (gone l x.num) + x.pk.length = waits l := by
  induction l with
  | nil => cases hx
  | cons y l ih =>
    simp only [List.map_cons, List.nodup_cons] at hn
    rcases List.mem_cons.1 hx with rfl | hx
    · have e2 : gone (x :: l) x.num = gone l x.num := by simp [gone]
      have e3 : gone l x.num = l := by
        unfold gone
        rw [List.filter_eq_self]
        intro z hz
        have : z.num ≠ x.num := fun q => hn.1 (List.mem_map.2 ⟨z, hz, q⟩)
        simpa using this
      rw [e2, e3]
      simp [waits]
      omega
    · have hne : y.num ≠ x.num := fun q => hn.1 (List.mem_map.2 ⟨x, hx, q.symm⟩)
      have e2 : gone (y :: l) x.num = y :: gone l x.num := by simp [gone, hne]
      have := ih hn.2 hx
      rw [e2]
      simp only [waits, List.map_cons, List.sum_cons] at this ⊢
      omega
/-- What the law keeps of a run. -/
structure OQ (p : PS) (tk rf tk' rf' sn dr : Nat) (l : List Ln) : Prop where
  oi : OI p.st l
  len : l.length = p.newest
  t : tk' = tk
  r : rf' = rf
  s : sn + dr + waits p.st.fl = tk
end Pace
end Go.Proofs.YtogdekjklbbbiaaDoor
