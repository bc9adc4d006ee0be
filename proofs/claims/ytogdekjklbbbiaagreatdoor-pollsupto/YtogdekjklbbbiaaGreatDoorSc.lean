import Derived.Test.YtogdekjklbbbiaaGreatDoorZ47
import Derived.Test.YtogdekjklbbbiaaGreatDoorZ42
import Derived.Test.YtogdekjklbbbiaaGreatDoorZ13
set_option maxRecDepth 100000
namespace Go.Proofs.YtogdekjklbbbiaaGreatDoor
open Go.ChangeShapes Go.WideShapes Go.ChangeAt Go.RowKit
set_option linter.unusedSimpArgs false
set_option linter.unusedVariables false

def kdR : Pace.Cmd → Int
  | .add _ _ _ => 1
  | .set _ _ _ _ => 2
  | .enq _ => 3
def rR : Pace.Cmd → Int
  | .add _ r _ => r
  | .set _ r _ _ => r
  | .enq _ => 0
def buR : Pace.Cmd → Int
  | .add _ _ b => b
  | .set _ _ b _ => b
  | .enq _ => 0
theorem askC_eq (c : Pace.Cmd) : askC c = [.int .i64 (kdR c), .int .i64 (c.flow : Int), .int .i64 (rR c), .int .i64 (buR c)] := by cases c <;> rfl
theorem asksC_get : ∀ (P : List Pace.Cmd) (k : Nat) (p : Pace.Cmd) (j : Nat) (v : Value), P[k]? = some p → (askC p)[j]? = some v → (asksC P)[k * 4 + j]? = some v
  | [], k, p, j, v, h, _ => by simp at h
  | q :: P, 0, p, j, v, h, hj => by
    simp at h; subst h
    show (askC q ++ asksC P)[0 * 4 + j]? = _
    have hlt : j < (askC q).length := (List.getElem?_eq_some_iff.1 hj).1
    rw [Nat.zero_mul, Nat.zero_add, List.getElem?_append_left hlt]; exact hj
  | q :: P, k + 1, p, j, v, h, hj => by
    have := asksC_get P k p j v (by simpa using h) hj
    show (askC q ++ asksC P)[(k + 1) * 4 + j]? = _
    rw [List.getElem?_append_right (by rw [askC_length]; omega), askC_length, show (k + 1) * 4 + j - 4 = k * 4 + j by omega]
    exact this
/-- The clock has gone on. -/
theorem rm_tick {w w' : World} {b : Nat} {y : RL} {s : Pace.St} {nw tu : Nat} {P : List Pace.Cmd} {c : Cn} (h : RM w b y s nw tu P c) (now : Nat) (hf : Fr w w' (fun k => k = b)) (hfz : ∀ o, w'.frozen? ⟨b, o, none⟩ = false) (hRB : RB w' b s.q (max s.clock now) nw tu y.fv y.pv c) : RM w' b y (Pace.tick s now) nw tu P c ∧ StpR w w' y y := by
  have hk : ∀ k t, y.tag k = t → t ≠ .none → t ≠ .self → w'.heap[k]? = w.heap[k]? := fun k t e h1 h2 => hf.blk k (h.lt k (h.own_of e h1)) fun q => h2 (by rw [← e, q]; exact h.tb)
  have hfl : ∀ f' ∈ (Pace.tick s now).fl, ∃ f ∈ s.fl, f'.num = f.num ∧ f'.rate = f.rate ∧ f'.burst = f.burst ∧ f'.pk = f.pk ∧ f'.adm = f.adm ∧ f'.cr = Pace.acc f.cr f.rate (f.burst * Pace.parts) (max s.clock now - s.clock) := fun f' hf' => by
    obtain ⟨f, hf, rfl⟩ := List.mem_map.1 hf'
    exact ⟨f, hf, rfl, rfl, rfl, rfl, rfl, rfl⟩
  refine ⟨⟨h.tb, h.t0, fun k hO => Nat.lt_of_lt_of_le (h.lt k hO) hf.size, hfz, hRB, ?_, h.tf, row_kept h.rp fun g hg => hk g _ (h.tp g hg) (by simp) (by simp), h.tp, ?_, ?_, ?_, ?_, ?_⟩, ⟨hf.weak fun k _ q => by rw [q]; exact h.ow, fun _ _ e => e⟩⟩
  · have e1 : (Pace.tick s now).fl.length = s.fl.length := by simp [Pace.tick]
    have e2 : ((Pace.tick s now).fl.map fun f => Value.pointer (some ⟨y.B f.num, 0, none⟩)) = s.fl.map fun f => Value.pointer (some ⟨y.B f.num, 0, none⟩) := by
      show (s.fl.map _).map _ = _
      rw [List.map_map]
      rfl
    rw [e1, e2]
    exact row_kept h.rf fun g hg => hk g _ (h.tf g hg) (by simp) (by simp)
  · intro f' hf'
    obtain ⟨f, hf, q1, q2, q3, q4, q5, q6⟩ := hfl f' hf'
    have h1 := (h.fl f hf).kept (hk _ _ (h.tl f hf) (by simp) (by simp)) fun g hg => hk g _ (h.tk f hf g hg) (by simp) (by simp)
    rw [q1]
    exact ⟨by rw [q1]; exact h1.c0, by rw [q2]; exact h1.c1, by rw [q3]; exact h1.c2, h1.c3, h1.c4, by rw [q5]; exact h1.c5, h1.c6, h1.c7, h1.c8, h1.c9, h1.c10, by rw [q4]; exact h1.row, h1.fz⟩
  · intro f' hf'
    obtain ⟨f, hf, q1, q2, q3, q4, q5, q6⟩ := hfl f' hf'
    have hfc := h.fc f hf
    have hr := hfc.rle
    rw [q1]
    refine ⟨Nat.le_trans hr (Nat.le_max_left _ _), by rw [q3]; exact hfc.cle, ?_⟩
    show f'.cr = Pace.acc _ f'.rate (f'.burst * Pace.parts) (max s.clock now - _)
    rw [q6, q2, q3, hfc.eq, Pace.acc_acc]
    congr 1
    omega
  · intro f' hf'
    obtain ⟨f, hf, q1, _⟩ := hfl f' hf'
    rw [q1]; exact h.tl f hf
  · intro f' hf'
    obtain ⟨f, hf, q1, _⟩ := hfl f' hf'
    rw [q1]; exact h.tk f hf
  · refine ⟨h.arm.inn, fun f' hf' hno => ?_, h.arm.ord, h.arm.le⟩
    obtain ⟨f, hf, q1, _⟩ := hfl f' hf'
    rw [q1] at hno ⊢
    exact h.arm.out f hf hno
/-- The batches of an answer of the document's. -/
structure RBt (w : World) (y : RL) (n0 : Nat) (bs : List Bt) (v : Value) (cs : List (List Value)) : Prop where
  row : w.ownsRow 0 200 3 v bs.length cs.flatten
  all : Pace.All2 (fun c q => ∃ pv, c = [.int .i64 (q.1 : Int), .int .i64 (q.2.1 : Int), pv] ∧ w.ownsRow 0 196 2 pv q.2.2.length (pkC q.2.2) ∧ ∀ g, pv.ownBlock = some g → y.tag g = .none ∧ v.ownBlock ≠ some g) cs bs
  vn : ∀ g, v.ownBlock = some g → n0 ≤ g ∧ y.tag g = .none
theorem RBt.step {w w' : World} {y y' : RL} {n0 : Nat} {bs : List Bt} {v : Value} {cs : List (List Value)} (h : RBt w y n0 bs v cs) (hs : StpR w w' y y') : RBt w' y' n0 bs v cs := by
  have hk : ∀ g, g < w.heap.size → y.tag g = .none → w'.heap[g]? = w.heap[g]? := fun g hg e => hs.fr.blk g hg fun q => q e
  refine ⟨row_kept0 h.row fun g hg => hk g (h.row.lt g hg).2 (h.vn g hg).2, h.all.mono fun c q hq => ?_, fun g hg => ⟨(h.vn g hg).1, hs.ext g (h.row.lt g hg).2 (h.vn g hg).2⟩⟩
  obtain ⟨pv, e, h1, h2⟩ := hq
  exact ⟨pv, e, row_kept0 h1 fun g hg => hk g (h1.lt g hg).2 (h2 g hg).1, fun g hg => ⟨hs.ext g (h1.lt g hg).2 (h2 g hg).1, (h2 g hg).2⟩⟩
theorem All2.snocR {α β : Type} {R : α → β → Prop} {l : List α} {m : List β} (h : Pace.All2 R l m) {a : α} {b : β} (hab : R a b) : Pace.All2 R (l ++ [a]) (m ++ [b]) := by
  induction h with
  | nil => exact .cons hab .nil
  | cons q _ ih => exact .cons q ih
/-- One batch more. -/
theorem RBt.snoc {w w4 : World} {b : Nat} {y : RL} {s : Pace.St} {nw tu : Nat} {P : List Pace.Cmd} {c : Cn} {n0 : Nat} {bs : List Bt} {v v2 pv : Value} {cs : List (List Value)} {o1 o2 : Obj} {q : Bt} (hM : RM w b y s nw tu P c) (h : RBt w y n0 bs v cs) (hn0 : n0 ≤ w.heap.size) (hp : w.ownsRow 0 196 2 pv q.2.2.length (pkC q.2.2)) (hpn : ∀ g, pv.ownBlock = some g → y.tag g = .none ∧ v.ownBlock ≠ some g)
    (hr : w4.ownsRow 0 200 3 v2 (bs.length + 1) (cs.flatten ++ [.int .i64 (q.1 : Int), .int .i64 (q.2.1 : Int), pv])) (hg : Gr ((w.alloc o1).alloc o2) w4 v v2) :
    RM w4 b y s nw tu P c ∧ Fr w w4 (fun k => v.ownBlock = some k) ∧ RBt w4 y n0 (bs ++ [q]) v2 (cs ++ [[.int .i64 (q.1 : Int), .int .i64 (q.2.1 : Int), pv]]) := by
  have hsa : ((w.alloc o1).alloc o2).heap.size = w.heap.size + 2 := by simp
  have hgs := hg.fr.size
  have hblk : ∀ k, k < w.heap.size → v.ownBlock ≠ some k → w4.heap[k]? = w.heap[k]? := fun k hk hn => by
    rw [hg.fr.blk k (by omega) hn, Below.heap_alloc _ _ _ (by simp; omega), Below.heap_alloc _ _ _ hk]
  have hfr : Fr w w4 (fun k => v.ownBlock = some k) := (((Fr.refl w _).alloc o1).alloc o2).trans hg.fr fun _ _ q => q
  have hnew : ∀ g, v2.ownBlock = some g → v.ownBlock = some g ∨ w.heap.size ≤ g := fun g e => by
    rcases hg.new e with q | q
    · exact .inl q
    · exact .inr (by omega)
  have hdj : ∀ g, g < w.heap.size → v.ownBlock ≠ some g → v2.ownBlock ≠ some g := fun g hl hn e => by
    rcases hnew g e with q | q
    · exact hn q
    · omega
  refine ⟨hM.kept hfr fun k hk q => hk (h.vn k q).2, hfr, ⟨?_, ?_, fun g e => ?_⟩⟩
  · rw [List.length_append, List.length_singleton, List.flatten_append]
    simpa using hr
  · refine All2.snocR (h.all.mono fun c' q' hq => ?_) ⟨pv, rfl, row_kept0 hp fun g hgg => hblk g (hp.lt g hgg).2 (hpn g hgg).2, fun g hgg => ⟨(hpn g hgg).1, hdj g (hp.lt g hgg).2 (hpn g hgg).2⟩⟩
    obtain ⟨pv', e, h1, h2⟩ := hq
    exact ⟨pv', e, row_kept0 h1 fun g hgg => hblk g (h1.lt g hgg).2 (h2 g hgg).2, fun g hgg => ⟨(h2 g hgg).1, hdj g (h1.lt g hgg).2 (h2 g hgg).2⟩⟩
  · rcases hnew g e with q | q
    · exact h.vn g q
    · exact ⟨by omega, RL.none_of hM q⟩
theorem rm_adm1 {w : World} {b : Nat} {y : RL} {s : Pace.St} {nw tu : Nat} {P : List Pace.Cmd} {c : Cn} (h : RM w b y s nw tu P c) (cm : Pace.Cmd) {cs : List Pace.Cmd} (hi : Pace.PI s (cm :: cs)) (hset : ∀ f r b l, cm = .set f r b l → l = b) (hfew : s.fl.length ≤ 8) (htu : tu < 1000000000000000000) :
    Calls Tryz.prog 85 #[.pointer (some ⟨b, 0, none⟩), .agg #[.int .i64 (kdR cm), .int .i64 (cm.flow : Int), .int .i64 (rR cm), .int .i64 (buR cm)]] w fun e w' => e = .returned (.tuple #[]) ∧ ∃ y' tu', RM w' b y' (Pace.adm1 s cm) nw tu' P c ∧ StpR w w' y y' ∧ y'.pv = y.pv ∧ tu' ≤ tu + 1 := by
  cases cm with
  | add f r bu => exact rm_adm_add h hi hfew
  | set f r bu l =>
    have := hset f r bu l rfl
    subst this
    exact rm_adm_set h hi hfew htu
  | enq f => exact rm_adm_enq h hi hfew htu
/-- Poll. -/
theorem rx_poll {w : World} {b : Nat} {y : RL} {p : Pace.PS} {tu : Nat} {c : Cn} (h : RX w b y p tu c) (hlen : p.asks.length < 2200000000000) (htu : tu < 100000000000000000) (hsent : c.sent < 100000000000000000) (now bud : Int) (hn : now ≤ 4000000000000000000) :
    Calls Tryz.prog 36 #[.pointer (some ⟨b, 0, none⟩), .int .i64 now, .int .i64 bud] w fun e w' => ∃ v, e = .returned (.tuple #[v, .int .i64 0]) ∧ ∃ y' tu' cs, RX w' b y' (p.poll now.toNat bud.toNat).2 tu' { c with sent := c.sent + total (p.poll now.toNat bud.toNat).1 } ∧ StpR w w' y y' ∧ RBt w' y' w.heap.size (p.poll now.toNat bud.toNat).1 v cs ∧ tu' ≤ tu + p.asks.length + 64 := by
  obtain ⟨hM, hI, hS⟩ := h
  have hti : Pace.PI (Pace.tick p.st now.toNat) p.asks := hI.pi.tick (by omega)
  have hai := hti.admit
  obtain ⟨s0, hs0⟩ : ∃ s0, s0 = Pace.tick p.st now.toNat := ⟨_, rfl⟩
  obtain ⟨s1, hs1⟩ : ∃ s1, s1 = Pace.admit s0 p.asks := ⟨_, rfl⟩
  rw [← hs0] at hti hai
  rw [← hs1] at hai
  have hfl0 : s0.fl.length = p.st.fl.length := by rw [hs0]; simp [Pace.tick]
  have hflk : ∀ k, (Pace.admit s0 (p.asks.take k)).fl.length = p.st.fl.length := fun k => by have := congrArg List.length (Pace.admit_nums s0 (p.asks.take k)); simp at this; rw [this, hfl0]
  have hfl1 : s1.fl.length ≤ 8 := by
    have := hflk p.asks.length
    rw [List.take_length, ← hs1] at this
    rw [this]; exact hI.few
  have hrl : ∀ j, (Pace.rel j s1).2.fl.length ≤ 8 := fun j => by
    have := congrArg List.length (Pace.rel_nums j s1)
    simp at this
    omega
  have hstep : ∀ k, k < p.asks.length → Pace.PI (Pace.admit s0 (p.asks.take k)) (nthC p.asks k :: p.asks.drop (k + 1)) ∧ Pace.admit s0 (p.asks.take (k + 1)) = Pace.adm1 (Pace.admit s0 (p.asks.take k)) (nthC p.asks k) := fun k hk => by
    refine ⟨by rw [← drop_nth hk]; exact pi_take hti k (by omega), ?_⟩
    rw [take_nth hk, Pace.admit_append]; rfl
  obtain ⟨a4, c4, hpv⟩ := row_len hM.rp
  have hpoll1 : (p.poll now.toNat bud.toNat).1 = (Pace.rel bud.toNat s1).1 := by rw [hs1, hs0]; rfl
  have hpoll2 : (p.poll now.toNat bud.toNat).2 = { p with st := (Pace.rel bud.toNat s1).2, asks := [] } := by rw [hs1, hs0]; rfl
  have hIp := hI.poll bud.toNat (now := now.toNat) (by omega)
  have hlen8 : ∀ j, (Pace.rel j s1).1.length ≤ 64 ∧ total (Pace.rel j s1).1 ≤ 64 := fun j => rel_len8 hai hfl1 j
  have key : ∀ j v wr, (∃ y' tu' cs, RM wr b y' (Pace.rel j s1).2 p.newest tu' [] { c with sent := c.sent + total (Pace.rel j s1).1 } ∧ StpR w wr y y' ∧ RBt wr y' w.heap.size (Pace.rel j s1).1 v cs ∧ tu' ≤ tu + p.asks.length + j) → j ≤ 64 → Pace.rel bud.toNat s1 = Pace.rel j s1 →
      ∃ y' tu' cs, RX wr b y' (p.poll now.toNat bud.toNat).2 tu' { c with sent := c.sent + total (p.poll now.toNat bud.toNat).1 } ∧ StpR w wr y y' ∧ RBt wr y' w.heap.size (p.poll now.toNat bud.toNat).1 v cs ∧ tu' ≤ tu + p.asks.length + 64 := by
    rintro j v wr ⟨y', tu', cs, h1, h2, h3, h4⟩ hj he
    refine ⟨y', tu', cs, ⟨?_, hIp, by rw [hpoll2]; exact Pace.SetsOk.nil⟩, h2, by rw [hpoll1, he]; exact h3, by omega⟩
    rw [hpoll1, he]
    have e : (p.poll now.toNat bud.toNat).2 = { p with st := (Pace.rel j s1).2, asks := [] } := by rw [hpoll2, he]
    rw [e]
    exact h1
  refine (rpoll_good b p.asks.length c4 a4 now bud (p.st.clock : Int) w (fun k => kdR (nthC p.asks k)) (fun k => ((nthC p.asks k).flow : Int)) (fun k => rR (nthC p.asks k)) (fun k => buR (nthC p.asks k))
    (fun k wr => ∃ y' tu', RM wr b y' (Pace.admit s0 (p.asks.take k)) p.newest tu' p.asks c ∧ StpR w wr y y' ∧ y'.pv = y.pv ∧ tu' ≤ tu + k ∧ k ≤ p.asks.length)
    (fun j v wr => (∃ y' tu' cs, RM wr b y' (Pace.rel j s1).2 p.newest tu' [] { c with sent := c.sent + total (Pace.rel j s1).1 } ∧ StpR w wr y y' ∧ RBt wr y' w.heap.size (Pace.rel j s1).1 v cs ∧ tu' ≤ tu + p.asks.length + j) ∧ (Pace.rel j s1).1.length = j ∧ j ≤ bud.toNat)
    (fun j v wr => (∃ y' tu' cs, RM wr b y' (Pace.rel j s1).2 p.newest tu' [] { c with sent := c.sent + total (Pace.rel j s1).1 } ∧ StpR w wr y y' ∧ RBt wr y' w.heap.size (Pace.rel j s1).1 v cs ∧ tu' ≤ tu + p.asks.length + j) ∧ (Pace.rel j s1).1.length = j ∧ j ≤ bud.toNat ∧ Pace.due (Pace.rel j s1).2 = none)
    (fun j v x wr => (∃ y' tu' cs, RM wr b y' (Pace.rel j s1).2 p.newest tu' [] { c with sent := c.sent + total (Pace.rel j s1).1 } ∧ StpR w wr y y' ∧ RBt wr y' w.heap.size (Pace.rel j s1).1 v cs ∧ tu' ≤ tu + p.asks.length + j ∧ ∃ a, Pace.due (Pace.rel j s1).2 = some a ∧ x = y'.B a.num) ∧ (Pace.rel j s1).1.length = j ∧ j ≤ bud.toNat)
    (fun j v m t pv wr => ∃ y' tu' cs a, Pace.due (Pace.rel j s1).2 = some a ∧ m = a.num ∧ t = a.at' ∧ RM wr b y' (Pace.send (Pace.rel j s1).2 a).2 p.newest tu' [] { c with sent := c.sent + total (Pace.rel j s1).1 + (Pace.send (Pace.rel j s1).2 a).1.2.2.length } ∧ StpR w wr y y' ∧ RBt wr y' w.heap.size (Pace.rel j s1).1 v cs ∧ tu' ≤ tu + p.asks.length + j + 1 ∧ (Pace.rel j s1).1.length = j ∧ j + 1 ≤ bud.toNat ∧ wr.ownsRow 0 196 2 pv (Pace.send (Pace.rel j s1).2 a).1.2.2.length (pkC (Pace.send (Pace.rel j s1).2 a).1.2.2) ∧ ∀ g, pv.ownBlock = some g → y'.tag g = .none ∧ v.ownBlock ≠ some g)
    (fun v wr => ∃ y' tu' cs, RX wr b y' (p.poll now.toNat bud.toNat).2 tu' { c with sent := c.sent + total (p.poll now.toNat bud.toNat).1 } ∧ StpR w wr y y' ∧ RBt wr y' w.heap.size (p.poll now.toNat bud.toNat).1 v cs ∧ tu' ≤ tu + p.asks.length + 64)
    hM.rb.c1 hM.rb.c2 (hM.fz 2) hn hlen ?_ ?_ ?_ ?_ ?_ ?_ ?_ ?_ ?_ ?_ ?_ ?_)
  · -- the clock
    have hnil : Pace.admit s0 (p.asks.take 0) = s0 := rfl
    rw [hnil]
    by_cases hck : (p.st.clock : Int) < now
    · rw [if_pos hck]
      have hmax : max p.st.clock now.toNat = now.toNat := by omega
      obtain ⟨h1, h2⟩ := rm_tick hM now.toNat (w' := w.setCell ⟨b, 2, none⟩ (.int .i64 now)) (ch1 _ _ _ _) (fun o => by rw [World.frozen?_setCell]; exact hM.fz o) (by
        rw [hmax]
        have := hM.rb.clock now.toNat
        rw [show ((now.toNat : Nat) : Int) = now by omega] at this
        exact this)
      rw [← hs0] at h1
      exact ⟨y, tu, h1, h2, rfl, by omega, by omega⟩
    · rw [if_neg hck]
      have hmax : max p.st.clock now.toNat = p.st.clock := by omega
      obtain ⟨h1, h2⟩ := rm_tick hM now.toNat (w' := w) (Fr.refl _ _) hM.fz (by rw [hmax]; exact hM.rb)
      rw [← hs0] at h1
      exact ⟨y, tu, h1, h2, rfl, by omega, by omega⟩
  · rintro k wr ⟨y', tu', h1, h2, h3, h4, h5⟩
    have hc4 := h1.rb.c4
    rw [h3, hpv] at hc4
    refine ⟨hc4, h1.fz 4, fun hk => ?_⟩
    have hr := h1.rp
    rw [h3] at hr
    obtain ⟨g, cap, hv, _⟩ := row_shape hr (by omega)
    rw [hpv] at hv
    injection hv with hv1 hv2 hv3
    refine ⟨g, hv1, ?_⟩
    rw [hpv, hv1] at hr
    have hg := nthC_get hk
    have hcm := askC_eq (nthC p.asks k)
    exact ⟨row_get hr (asksC_get p.asks k _ 0 _ hg (by rw [hcm]; rfl)), row_get hr (asksC_get p.asks k _ 1 _ hg (by rw [hcm]; rfl)), row_get hr (asksC_get p.asks k _ 2 _ hg (by rw [hcm]; rfl)), row_get hr (asksC_get p.asks k _ 3 _ hg (by rw [hcm]; rfl))⟩
  · rintro k wr ⟨y', tu', h1, h2, h3, h4, h5⟩ hk
    obtain ⟨hpi, hst⟩ := hstep k hk
    refine (rm_adm1 h1 (nthC p.asks k) hpi (fun f r b l e => hS f r b l (by rw [← e]; exact List.mem_of_getElem? (nthC_get hk))) (by rw [hflk k]; exact hI.few) (by omega)).mono ?_
    rintro e w' ⟨rfl, y2, tu2, k1, k2, k3, k4⟩
    exact ⟨rfl, y2, tu2, by rw [hst]; exact k1, h2.trans k2, k3.trans h3, by omega, by omega⟩
  · rintro wr ⟨y', tu', h1, h2, h3, h4, h5⟩
    rw [List.take_length, ← hs1] at h1
    obtain ⟨y2, k1, k2, e1, _⟩ := h1.self (P' := []) (w' := wr.setCell ⟨b, 4, none⟩ (.slice none 0 0)) (ch1 _ _ _ _) (fun k q => .inl q) (h1.rb.pend _) (fun o => by rw [World.frozen?_setCell]; exact h1.fz o) (World.ownsRow_nil _ _ _ _) (fun g hg => by cases hg)
    refine ⟨⟨y2, tu', [], k1, h2.trans ⟨(ch1 _ _ _ _).weak fun k _ q => by rw [q]; exact h1.ow, k2⟩, ⟨World.ownsRow_nil _ _ _ _, .nil, fun g hg => by cases hg⟩, by omega⟩, rfl, Nat.zero_le _⟩
  · rintro j v wr ⟨⟨y', tu', cs, h1, h2, h3, h4⟩, h5, h6⟩
    have hpi := hai.rel j
    refine (rm_due h1 hpi.wf (hrl j)).mono ?_
    rintro e w' ⟨rfl, hC⟩
    have hfr : Fr wr w' (fun _ => False) := hC.fr2 fun _ _ q => q
    have h1' := h1.kept hfr (fun _ _ q => q)
    have hst : StpR wr w' y' y' := ⟨hfr.weak fun _ _ q => q.elim, fun _ _ e => e⟩
    have h3' := h3.step hst
    cases hd : Pace.due (Pace.rel j s1).2 with
    | none => exact .inl ⟨rfl, ⟨y', tu', cs, h1', h2.trans hst, h3', h4⟩, h5, h6, rfl⟩
    | some a => exact .inr ⟨_, rfl, ⟨y', tu', cs, h1', h2.trans hst, h3', h4, a, rfl, rfl⟩, h5, h6⟩
  · rintro j v wr ⟨h1, h2, h3, h4⟩
    have := (rel_succ j s1).1 h4 (bud.toNat - j)
    rw [show j + (bud.toNat - j) = bud.toNat by omega] at this
    exact key j v wr h1 (by have := (hlen8 j).1; omega) this
  · rintro j v x wr ⟨⟨y', tu', cs, h1, h2, h3, h4, _⟩, h5, h6⟩ hb
    have : j = bud.toNat := by omega
    exact key j v wr ⟨y', tu', cs, h1, h2, h3, h4⟩ (by have := (hlen8 j).1; omega) (by rw [this])
  · rintro j v x wr ⟨_, h5, h6⟩
    have := (hlen8 j).1
    omega
  · rintro j v wr ⟨⟨y', tu', cs, h1, h2, h3, h4⟩, h5, _⟩
    have := row_len h3.row
    rw [h5] at this
    exact this
  · rintro j v x wr ⟨⟨y', tu', cs, h1, h2, h3, h4, _⟩, h5, _⟩
    have := row_len h3.row
    rw [h5] at this
    exact this
  · rintro j v x wr ⟨⟨y', tu', cs, h1, h2, h3, h4, a, ha, rfl⟩, h5, h6⟩ hb
    have hpi := hai.rel j
    have hl8 := hlen8 j
    refine (rm_send h1 hpi ha (by omega) (by show c.sent + total _ < _; omega)).mono ?_
    rintro e w' ⟨pv, rfl, y2, tu2, k1, k2, k3, k4, k5⟩
    refine ⟨a.num, a.at', pv, rfl, y2, tu2, cs, a, ha, rfl, rfl, k1, h2.trans k2, h3.step k2, by omega, h5, by omega, k3, fun g hg => ⟨(k4 g hg).2, fun e => ?_⟩⟩
    have := (h3.row.lt g e).2
    have := (k4 g hg).1
    omega
  · rintro j v m t pv wr ⟨y', tu', cs, a, ha, rfl, rfl, h1, h2, h3, h4, h5, h6, h7, h8⟩
    refine ⟨?_, cs.flatten, by have := h3.row; rw [h5] at this; exact this, fun v2 w2 hr hg => ?_⟩
    · obtain ⟨a', c', e⟩ := row_len h7
      exact ⟨_, _, _, e⟩
    · have hrs := (rel_succ j s1).2 a h5 ha
      obtain ⟨x, hx, hxn, hlx, hk0, hka, hby, hs1', hfl', hi'⟩ := (hai.rel j).send (Pace.best_some (Pace.due_some ha).1).1 (Pace.due_some ha).2
      obtain ⟨k1, k2, k3⟩ := RBt.snoc (q := (Pace.send (Pace.rel j s1).2 a).1) h1 h3 h2.fr.size h7 h8 (by rw [h5, hs1']; exact hr) hg
      have htot : total ((Pace.rel j s1).1 ++ [(Pace.send (Pace.rel j s1).2 a).1]) = total (Pace.rel j s1).1 + (Pace.send (Pace.rel j s1).2 a).1.2.2.length := by simp [total]
      refine ⟨⟨y', tu', _, ?_, ⟨h2.fr.trans k2 fun k hk q => ?_, h2.ext⟩, by rw [hrs]; exact k3, by omega⟩, by rw [hrs]; simp [h5], h6⟩
      · rw [hrs, htot, ← Nat.add_assoc]; exact k1
      · have := (h3.vn k q).1
        omega
end Go.Proofs.YtogdekjklbbbiaaGreatDoor
