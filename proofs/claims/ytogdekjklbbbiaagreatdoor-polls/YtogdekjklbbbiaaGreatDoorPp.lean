import Derived.Test.YtogdekjklbbbiaaGreatDoorZ30
set_option maxRecDepth 100000
namespace Go.Proofs.YtogdekjklbbbiaaGreatDoor
open Go.ChangeShapes Go.WideShapes Go.ChangeAt Go.RowKit
set_option linter.unusedSimpArgs false
set_option linter.unusedVariables false

/-- A flow begins. -/
theorem fl_start {w : World} {x : Nat} {f : Pace.Fl} {cr rk bt : Nat} {v : Value} (h : FA w x f cr rk bt v) (r b ck : Nat) (hb : b ≤ 1000000) (hvx : v.ownBlock ≠ some x) :
    Calls Tryz.prog 62 #[.pointer (some ⟨x, 0, none⟩), .int .i64 (r : Int), .int .i64 (b : Int), .int .i64 (ck : Int)] w fun e w' => e = .returned (.tuple #[]) ∧ Ch w w' (fun a o => a = x ∧ 1 ≤ o ∧ o ≤ 4) ∧ FA w' x { f with rate := r, burst := b, cr := b * Pace.parts } (b * Pace.parts) ck bt v := by
  have hp := Pace.parts_eq
  refine (start_walk x (r : Int) (b : Int) (ck : Int) _ _ _ _ w (by omega) (by omega) h.c1 h.c2 h.c3 h.c4 h.fz).mono ?_
  rintro e w' ⟨rfl, h1, c1, c2, c3, c4⟩
  obtain ⟨a1, a2⟩ := h.ch hvx h1 (fun a o q => q.1)
  have hc : ∀ o, ¬ (1 ≤ o ∧ o ≤ 4) → w'.cell? ⟨x, o, none⟩ = w.cell? ⟨x, o, none⟩ := fun o o1 => h1.cell x o fun q => o1 q.2
  refine ⟨rfl, h1, ⟨by rw [hc 0 (by omega)]; exact h.c0, c1, c2, ?_, c4, by rw [hc 5 (by omega)]; exact h.c5, by rw [hc 6 (by omega)]; exact h.c6, by rw [hc 7 (by omega)]; exact h.c7, a1, a2⟩⟩
  rw [c3, hp]; simp
/-- A flow changes. -/
theorem fl_change {w : World} {x : Nat} {f : Pace.Fl} {cr rk bt ck q : Nat} {v : Value} (h : FA w x f cr rk bt v) (hC : FC ck f cr rk) (hF : Pace.FOk q f) (hck : ck ≤ 4000000000000000000) (r b l : Nat) (hl : l ≤ 1000000) (hvx : v.ownBlock ≠ some x) :
    Calls Tryz.prog 63 #[.pointer (some ⟨x, 0, none⟩), .int .i64 (r : Int), .int .i64 (b : Int), .int .i64 (l : Int), .int .i64 (ck : Int)] w fun e w' => e = .returned (.tuple #[]) ∧ Ch w w' (fun a o => a = x ∧ 1 ≤ o ∧ o ≤ 4) ∧ FA w' x { f with rate := r, burst := b, cr := min f.cr (l * Pace.parts) } (min f.cr (l * Pace.parts)) ck bt v := by
  have hp := Pace.parts_eq
  refine (change_walk x (r : Int) (b : Int) (l : Int) (ck : Int) (f.cr : Int) w (fun w1 => Ch w w1 (fun a o => a = x ∧ (o = 3 ∨ o = 4)) ∧ FA w1 x f f.cr ck bt v) (by omega) (by omega) (fl_accrue h hC hF hck hvx) ?_).mono ?_
  · rintro w1 ⟨_, h1⟩
    exact ⟨⟨_, h1.c1⟩, ⟨_, h1.c2⟩, h1.c3, h1.fz⟩
  · rintro e w' ⟨rfl, w1, ⟨hc1, h1⟩, h2, c1, c2, c3⟩
    obtain ⟨a1, a2⟩ := h1.ch hvx h2 (fun a o q => q.1)
    have hc : ∀ o, ¬ (1 ≤ o ∧ o ≤ 3) → w'.cell? ⟨x, o, none⟩ = w1.cell? ⟨x, o, none⟩ := fun o o1 => h2.cell x o fun q => o1 q.2
    refine ⟨rfl, (hc1.trans h2).mono fun a o q => ?_, ⟨by rw [hc 0 (by omega)]; exact h1.c0, c1, c2, ?_, by rw [hc 4 (by omega)]; exact h1.c4, by rw [hc 5 (by omega)]; exact h1.c5, by rw [hc 6 (by omega)]; exact h1.c6, by rw [hc 7 (by omega)]; exact h1.c7, a1, a2⟩⟩
    · rcases q with ⟨q1, q2⟩ | ⟨q1, q2⟩ <;> exact ⟨q1, by omega, by omega⟩
    · rw [c3, hp]
      have : (min (f.cr : Int) ((l : Int) * 1000000000)) = ((min f.cr (l * 1000000000) : Nat) : Int) := by omega
      rw [this]
theorem upd_const {l : List Pace.Fl} (hnd : (l.map (·.num)).Nodup) {n : Nat} {f : Pace.Fl} (h : Pace.look l n = some f) (u : Pace.Fl → Pace.Fl) : Pace.upd l n u = Pace.upd l n (fun _ => u f) := by
  unfold Pace.upd
  apply List.map_congr_left
  intro x hx
  split
  · rename_i q
    have := Pace.look_of_mem hnd hx
    rw [q, h] at this
    injection this with this
    rw [this]
  · rfl
theorem Step.alloc {w : World} {b : Nat} {y : Lay} {s : Pace.St} {nw : Nat} {P : List Pace.Cmd} {c : Cn} (h : PM w b y s nw P c) (o : Obj) (m : Nat) : PM ((w.alloc o).drewN m) b y s nw P c ∧ Step w ((w.alloc o).drewN m) y y :=
  ⟨h.kept (O := fun _ => False) (((Fr.refl _ _).alloc o).drewN m) fun _ _ q => q, ⟨((Fr.refl _ _).alloc o).drewN m, fun _ _ e => e⟩⟩
theorem Step.alloc0 {w : World} {b : Nat} {y : Lay} {s : Pace.St} {nw : Nat} {P : List Pace.Cmd} {c : Cn} (h : PM w b y s nw P c) (o : Obj) : PM (w.alloc o) b y s nw P c ∧ Step w (w.alloc o) y y :=
  ⟨h.kept (O := fun _ => False) ((Fr.refl _ _).alloc o) fun _ _ q => q, ⟨(Fr.refl _ _).alloc o, fun _ _ e => e⟩⟩
/-- What is not the pacer's stays through a step. -/
theorem Step.keeps {w w' : World} {b : Nat} {y y' : Lay} {s : Pace.St} {nw : Nat} {P : List Pace.Cmd} {c : Cn} {w0 : World} (hS : Step w w' y y') (h : PM w0 b y s nw P c) (o : Obj) (hw : w.heap[w0.heap.size]? = some o) : w'.heap[w0.heap.size]? = some o := by
  have hlt : w0.heap.size < w.heap.size := by
    rcases Nat.lt_or_ge w0.heap.size w.heap.size with q | q
    · exact q
    · rw [Array.getElem?_eq_none q] at hw; cases hw
  rw [hS.fr.blk _ hlt (fun q => Nat.lt_irrefl _ (h.lt _ q)), hw]

/-- One flow's change, at the pacer. -/
theorem pm_flow {w w' : World} {b : Nat} {y : Lay} {s : Pace.St} {nw : Nat} {P : List Pace.Cmd} {c : Cn} (h : PM w b y s nw P c) (hnd : (s.fl.map (·.num)).Nodup) {n : Nat} {f : Pace.Fl} (hn : Pace.look s.fl n = some f) (u : Pace.Fl → Pace.Fl) (hu : (u f).num = n) {cr rk bt : Nat} {v : Value} {S : Nat → Nat → Prop} (hc : Ch w w' S) (hS : ∀ a o, S a o → a = y.B n)
    (hFA : FA w' (y.B n) (u f) cr rk bt v) (hFC : FC s.clock (u f) cr rk) (hv : v = y.V n) (hbt : bt = y.bt n) : ∃ y', PM w' b y' { s with fl := Pace.upd s.fl n u } nw P c ∧ Step w w' y y' ∧ y'.B = y.B ∧ y'.pv = y.pv := by
  obtain ⟨hfm, hfn⟩ := Pace.look_some hn
  have hBt := h.tl f hfm
  rw [hfn] at hBt
  obtain ⟨y2, hP2, hS2, b1, b2, b3, b4, b5⟩ := h.flow (f' := u f) hn hu (hc.fr2 fun a o q => .inl (by rw [hS a o q]; exact hBt)) hFA hFC (fun g hg => .inl (by rw [← hv]; exact hg)) (fun a ha q => by rw [hbt, ← q]; exact h.ak a ha)
  rw [← upd_const hnd hn u] at hP2
  exact ⟨y2, hP2, hS2, b1, b5⟩
theorem PM.at_flow {w : World} {b : Nat} {y : Lay} {s : Pace.St} {nw : Nat} {P : List Pace.Cmd} {c : Cn} (h : PM w b y s nw P c) {n : Nat} {f : Pace.Fl} (hn : Pace.look s.fl n = some f) : FA w (y.B n) f (y.cr n) (y.rk n) (y.bt n) (y.V n) ∧ FC s.clock f (y.cr n) (y.rk n) ∧ (y.V n).ownBlock ≠ some (y.B n) ∧ y.tag (y.B n) = .flow n := by
  obtain ⟨hfm, hfn⟩ := Pace.look_some hn
  have h1 := h.fl f hfm
  have h2 := h.fc f hfm
  have h3 := h.tl f hfm
  have h4 := h.vx hfm (x := y.B n)
  rw [hfn] at h1 h2 h3 h4
  exact ⟨h1, h2, h4 (by rw [h3]; simp), h3⟩
theorem pm_start {w : World} {b : Nat} {y : Lay} {s : Pace.St} {nw : Nat} {P : List Pace.Cmd} {c : Cn} (h : PM w b y s nw P c) (hnd : (s.fl.map (·.num)).Nodup) {n : Nat} {f : Pace.Fl} (hn : Pace.look s.fl n = some f) (r bu : Nat) (hb : bu ≤ 1000000) :
    Calls Tryz.prog 62 #[.pointer (some ⟨y.B n, 0, none⟩), .int .i64 (r : Int), .int .i64 (bu : Int), .int .i64 (s.clock : Int)] w fun e w' => e = .returned (.tuple #[]) ∧ ∃ y', PM w' b y' (Pace.adm1 s (.add n r bu)) nw P c ∧ Step w w' y y' ∧ y'.B = y.B ∧ y'.pv = y.pv := by
  obtain ⟨h1, h2, h3, _⟩ := h.at_flow hn
  refine (fl_start h1 r bu s.clock hb h3).mono ?_
  rintro e w' ⟨rfl, hc, hA⟩
  refine ⟨rfl, pm_flow h hnd hn (fun x => { x with rate := r, burst := bu, cr := bu * Pace.parts }) (Pace.look_some hn).2 hc (fun a o q => q.1) hA ⟨Nat.le_refl _, Nat.le_refl _, ?_⟩ rfl rfl⟩
  show bu * Pace.parts = Pace.acc (bu * Pace.parts) r (bu * Pace.parts) (s.clock - s.clock)
  rw [Nat.sub_self, Pace.acc_zero (Nat.le_refl _)]
theorem pm_change {w : World} {b : Nat} {y : Lay} {s : Pace.St} {nw : Nat} {P : List Pace.Cmd} {c : Cn} (h : PM w b y s nw P c) (hnd : (s.fl.map (·.num)).Nodup) {n : Nat} {f : Pace.Fl} (hn : Pace.look s.fl n = some f) (hF : Pace.FOk s.q f) (hck : s.clock ≤ 4000000000000000000) (r bu l : Nat) (hb : bu ≤ 1000000) (hl : l ≤ bu) :
    Calls Tryz.prog 63 #[.pointer (some ⟨y.B n, 0, none⟩), .int .i64 (r : Int), .int .i64 (bu : Int), .int .i64 (l : Int), .int .i64 (s.clock : Int)] w fun e w' => e = .returned (.tuple #[]) ∧ ∃ y', PM w' b y' { s with fl := Pace.upd s.fl n fun x => { x with rate := r, burst := bu, cr := min x.cr (l * Pace.parts) } } nw P c ∧ Step w w' y y' ∧ y'.B = y.B ∧ y'.pv = y.pv := by
  obtain ⟨h1, h2, h3, _⟩ := h.at_flow hn
  refine (fl_change h1 h2 hF hck r bu l (by omega) h3).mono ?_
  rintro e w' ⟨rfl, hc, hA⟩
  have hle : min f.cr (l * Pace.parts) ≤ bu * Pace.parts := Nat.le_trans (Nat.min_le_right _ _) (Nat.mul_le_mul_right _ hl)
  refine ⟨rfl, pm_flow h hnd hn (fun x => { x with rate := r, burst := bu, cr := min x.cr (l * Pace.parts) }) (Pace.look_some hn).2 hc (fun a o q => q.1) hA ⟨Nat.le_refl _, hle, ?_⟩ rfl rfl⟩
  show min f.cr (l * Pace.parts) = Pace.acc (min f.cr (l * Pace.parts)) r (bu * Pace.parts) (s.clock - s.clock)
  rw [Nat.sub_self, Pace.acc_zero hle]
/-- A packet is admitted. -/
theorem pm_adm {w : World} {b : Nat} {y : Lay} {s : Pace.St} {nw : Nat} {P : List Pace.Cmd} {c : Cn} (h : PM w b y s nw P c) (hnd : (s.fl.map (·.num)).Nodup) {n : Nat} {f : Pace.Fl} (hn : Pace.look s.fl n = some f) :
    ∃ y', PM (w.setCell ⟨y.B n, 6, none⟩ (.int .i64 ((f.adm : Int) + 1))) b y' { s with fl := Pace.upd s.fl n fun x => { x with adm := x.adm + 1 } } nw P c ∧ Step w (w.setCell ⟨y.B n, 6, none⟩ (.int .i64 ((f.adm : Int) + 1))) y y' ∧ y'.B = y.B ∧ y'.pv = y.pv := by
  obtain ⟨h1, h2, h3, _⟩ := h.at_flow hn
  have hc : Ch w (w.setCell ⟨y.B n, 6, none⟩ (.int .i64 ((f.adm : Int) + 1))) (fun a o => a = y.B n ∧ o = 6) := (Ch.refl w _).setCell ⟨rfl, rfl⟩ _
  obtain ⟨a1, a2⟩ := h1.ch h3 hc (fun a o q => q.1)
  have hcc : ∀ o, o ≠ 6 → (w.setCell ⟨y.B n, 6, none⟩ (.int .i64 ((f.adm : Int) + 1))).cell? ⟨y.B n, o, none⟩ = w.cell? ⟨y.B n, o, none⟩ := fun o o1 => hc.cell _ o fun q => o1 q.2
  refine pm_flow h hnd hn (fun x => { x with adm := x.adm + 1 }) (Pace.look_some hn).2 hc (fun a o q => q.1) ⟨by rw [hcc 0 (by omega)]; exact h1.c0, by rw [hcc 1 (by omega)]; exact h1.c1, by rw [hcc 2 (by omega)]; exact h1.c2, by rw [hcc 3 (by omega)]; exact h1.c3, by rw [hcc 4 (by omega)]; exact h1.c4, by rw [hcc 5 (by omega)]; exact h1.c5, ?_, by rw [hcc 7 (by omega)]; exact h1.c7, a1, a2⟩ ⟨h2.rle, h2.cle, h2.eq⟩ rfl rfl
  rw [World.cell?_setCell_same' _ _ _ (by rw [h1.c6]; rfl)]
  simp
theorem cmdsC_get (B : Nat → Nat) : ∀ (P : List Pace.Cmd) (k : Nat) (p : Pace.Cmd) (j : Nat) (v : Value), P[k]? = some p → (cmdC B p)[j]? = some v → (cmdsC B P)[k * 5 + j]? = some v
  | [], k, p, j, v, h, _ => by simp at h
  | q :: P, 0, p, j, v, h, hj => by
    simp at h; subst h
    show (cmdC B q ++ cmdsC B P)[0 * 5 + j]? = _
    have hlt : j < (cmdC B q).length := (List.getElem?_eq_some_iff.1 hj).1
    rw [Nat.zero_mul, Nat.zero_add, List.getElem?_append_left hlt]; exact hj
  | q :: P, k + 1, p, j, v, h, hj => by
    have := cmdsC_get B P k p j v (by simpa using h) hj
    show (cmdC B q ++ cmdsC B P)[(k + 1) * 5 + j]? = _
    rw [List.getElem?_append_right (by rw [cmdC_length]; omega), cmdC_length, show (k + 1) * 5 + j - 5 = k * 5 + j by omega]
    exact this

def kdC : Pace.Cmd → Int
  | .add _ _ _ => 0
  | .set _ _ _ _ => 1
  | .enq _ => 2
def rC : Pace.Cmd → Int
  | .add _ r _ => r
  | .set _ r _ _ => r
  | .enq _ => 0
def buC : Pace.Cmd → Int
  | .add _ _ b => b
  | .set _ _ b _ => b
  | .enq _ => 0
def lC : Pace.Cmd → Int
  | .add _ _ _ => 0
  | .set _ _ _ l => l
  | .enq _ => 0
theorem cmdC_eq (B : Nat → Nat) (c : Pace.Cmd) : cmdC B c = [.int .i64 (kdC c), .pointer (some ⟨B c.flow, 0, none⟩), .int .i64 (rC c), .int .i64 (buC c), .int .i64 (lC c)] := by cases c <;> rfl
def nthC (P : List Pace.Cmd) (k : Nat) : Pace.Cmd := (P[k]?).getD (.enq 0)
theorem nthC_get {P : List Pace.Cmd} {k : Nat} (h : k < P.length) : P[k]? = some (nthC P k) := by
  unfold nthC; rw [List.getElem?_eq_getElem h]; rfl
theorem take_nth {P : List Pace.Cmd} {k : Nat} (h : k < P.length) : P.take (k + 1) = P.take k ++ [nthC P k] := by
  rw [List.take_add_one, nthC_get h]; rfl
theorem drop_nth {P : List Pace.Cmd} {k : Nat} (h : k < P.length) : P.drop k = nthC P k :: P.drop (k + 1) := by
  rw [List.drop_eq_getElem_cons h]
  congr 1
  have := nthC_get h
  rw [List.getElem?_eq_getElem h] at this
  exact Option.some.inj this
theorem pi_take {s : Pace.St} {P : List Pace.Cmd} (h : Pace.PI s P) : ∀ k, k ≤ P.length → Pace.PI (Pace.admit s (P.take k)) (P.drop k)
  | 0, _ => h
  | k + 1, hk => by
    have h1 := pi_take h k (by omega)
    rw [drop_nth (by omega)] at h1
    rw [take_nth (by omega), Pace.admit_append]
    exact h1.step
theorem arms_few : ∀ (A : List Nat) (L : List Nat), A.Nodup → (∀ a ∈ A, a ∈ L) → A.length ≤ L.length
  | [], L, _, _ => Nat.zero_le _
  | a :: A, L, h, hs => by
    have h1 := List.nodup_cons.1 h
    have := arms_few A (L.erase a) h1.2 fun x hx => (List.mem_erase_of_ne (fun e => h1.1 (by rw [← e]; exact hx))).2 (hs x (List.mem_cons_of_mem _ hx))
    have ha := hs a (List.mem_cons_self ..)
    have hp := List.length_pos_of_mem ha
    rw [List.length_erase_of_mem ha] at this
    simp only [List.length_cons]
    omega
theorem Wf_few {s : Pace.St} (h : Pace.WF s) : s.A.length ≤ s.fl.length := by
  have := arms_few (s.A.map (·.num)) (s.fl.map (·.num)) h.anum fun a ha => by
    obtain ⟨x, hx, rfl⟩ := List.mem_map.1 ha
    obtain ⟨f, hf, _⟩ := h.A x hx
    obtain ⟨h1, h2⟩ := Pace.look_some hf
    exact List.mem_map.2 ⟨f, h1, h2⟩
  simpa using this
theorem live_look {s : Pace.St} {n : Nat} (h : ∃ x ∈ s.fl, x.num = n) : ∃ f, Pace.look s.fl n = some f := by
  have := Pace.look_of_live h
  cases q : Pace.look s.fl n with
  | none => exact absurd q this
  | some f => exact ⟨f, rfl⟩
theorem row_bound {w : World} {e sz n : Nat} {v : Value} {xs : List Value} (h : w.ownsRow 0 e sz v n xs) : n ≤ maxLen := by
  rcases h.2 with ⟨_, q⟩ | ⟨g, cap, cur, _, _, _, h1, h2, _⟩
  · rw [q]; exact Nat.zero_le _
  · exact Nat.le_trans h1 h2

theorem adm1_clock (s : Pace.St) (c : Pace.Cmd) : (Pace.adm1 s c).clock = s.clock := by
  cases c with
  | add f r b => rfl
  | set f r b l => exact Pace.arm_clock _ _
  | enq f =>
    unfold Pace.adm1
    simp only
    split
    · rfl
    · split
      · exact Pace.arm_clock _ _
      · rfl
theorem admit_clock (s : Pace.St) (cs : List Pace.Cmd) : (Pace.admit s cs).clock = s.clock := by
  induction cs generalizing s with
  | nil => rfl
  | cons c cs ih => exact (ih (Pace.adm1 s c)).trans (adm1_clock s c)
/-- What was asked is admitted. -/
theorem pm_admit {w : World} {b : Nat} {y : Lay} {s : Pace.St} {nw : Nat} {P : List Pace.Cmd} {c : Cn} (h : PM w b y s nw P c) (hi : Pace.PI s P) (hfew : s.fl.length ≤ 8) (hnb : ∀ x ∈ s.fl, x.num < 9223372036854775808) (hlen : P.length < 9000000000000000000) :
    Calls Tryz.prog 24 #[.pointer (some ⟨b, 0, none⟩)] w fun e w' => e = .returned (.tuple #[]) ∧ ∃ wr y', PM wr b y' (Pace.admit s P) nw P c ∧ Step w wr y y' ∧ y'.B = y.B ∧ w' = wr.setCell ⟨b, 4, none⟩ (.slice none 0 0) := by
  have hq : ∀ k, (Pace.admit s (P.take k)).clock = s.clock := fun k => admit_clock s _
  have hfl : ∀ k, (Pace.admit s (P.take k)).fl.length = s.fl.length := fun k => by have := congrArg List.length (Pace.admit_nums s (P.take k)); simpa using this
  have hnum : ∀ k, ∀ x ∈ (Pace.admit s (P.take k)).fl, x.num < 9223372036854775808 := fun k x hx => by
    have : x.num ∈ (Pace.admit s (P.take k)).fl.map (·.num) := List.mem_map.2 ⟨x, hx, rfl⟩
    rw [Pace.admit_nums] at this
    obtain ⟨z, hz, e⟩ := List.mem_map.1 this
    rw [← e]; exact hnb z hz
  obtain ⟨a3, cap3, hpv⟩ : ∃ a3 cap3, y.pv = .slice a3 P.length cap3 := by
    rcases h.rp.2 with ⟨q1, q2⟩ | ⟨g, cap, cur, q1, _⟩
    · exact ⟨none, 0, by rw [q1, q2]⟩
    · exact ⟨_, _, q1⟩
  have hstep : ∀ k, k < P.length → Pace.PI (Pace.admit s (P.take k)) (nthC P k :: P.drop (k + 1)) ∧ Pace.admit s (P.take (k + 1)) = Pace.adm1 (Pace.admit s (P.take k)) (nthC P k) := fun k hk => by
    refine ⟨by rw [← drop_nth hk]; exact pi_take hi k (by omega), ?_⟩
    rw [take_nth hk, Pace.admit_append]; rfl
  refine (admit_walk b P.length (s.clock : Int) y.pv w (fun k => kdC (nthC P k)) (fun k => rC (nthC P k)) (fun k => buC (nthC P k)) (fun k => lC (nthC P k)) (fun k => y.B (nthC P k).flow)
    (fun k wr => ∃ y', PM wr b y' (Pace.admit s (P.take k)) nw P c ∧ Step w wr y y' ∧ y'.B = y.B ∧ y'.pv = y.pv)
    (fun k wr => ∃ y', (∃ f r bu l, nthC P k = .set f r bu l ∧ PM wr b y' { Pace.admit s (P.take k) with fl := Pace.upd (Pace.admit s (P.take k)).fl f fun x => { x with rate := r, burst := bu, cr := min x.cr (l * Pace.parts) } } nw P c) ∧ Step w wr y y' ∧ y'.B = y.B ∧ y'.pv = y.pv)
    hlen ⟨y, h, Step.refl _ _, rfl, rfl⟩ h.pb.c4 a3 cap3 hpv ?_ ?_ ?_ ?_ ?_ ?_ ?_ ?_).mono ?_
  · rintro k wr ⟨y', h', _, e1, e2⟩ hk
    have hr := h'.rp
    rw [e2, e1] at hr
    obtain ⟨g, cap, hv, _⟩ := row_shape hr (by omega)
    rw [hpv] at hv
    injection hv with hv1 hv2 hv3
    refine ⟨g, hv1, ?_⟩
    rw [hpv, hv1] at hr
    have hg := nthC_get hk
    have hcm := cmdC_eq y.B (nthC P k)
    refine ⟨?_, ?_, ?_, ?_, ?_⟩
    · exact row_get hr (cmdsC_get y.B P k _ 0 _ hg (by rw [hcm]; rfl))
    · exact row_get hr (cmdsC_get y.B P k _ 1 _ hg (by rw [hcm]; rfl))
    · exact row_get hr (cmdsC_get y.B P k _ 2 _ hg (by rw [hcm]; rfl))
    · exact row_get hr (cmdsC_get y.B P k _ 3 _ hg (by rw [hcm]; rfl))
    · exact row_get hr (cmdsC_get y.B P k _ 4 _ hg (by rw [hcm]; rfl))
  · rintro k wr ⟨y', h', _, e1, e2⟩
    have := h'.pb.c1
    rw [hq k] at this
    exact this
  · intro k hk
    show kdC (nthC P k) = 0 ∨ kdC (nthC P k) = 1 ∨ kdC (nthC P k) = 2
    cases nthC P k <;> simp [kdC]
  · rintro k wr o m ⟨y', h', hs, e1, e2⟩ hk hkd
    obtain ⟨hpi, hst⟩ := hstep k hk
    obtain ⟨hA, hSA⟩ := Step.alloc h' o m
    rw [hst]
    show Calls Tryz.prog 62 #[.pointer (some ⟨y.B (nthC P k).flow, 0, none⟩), .int .i64 (rC (nthC P k)), .int .i64 (buC (nthC P k)), .int .i64 (s.clock : Int)] _ _
    have hkd' : kdC (nthC P k) = 0 := hkd
    generalize nthC P k = cm at hpi hst hkd' ⊢
    cases cm with
    | set f r bu l => cases hkd'
    | enq f => cases hkd'
    | add f r bu =>
      obtain ⟨x, hx⟩ := live_look (hpi.live _ (List.mem_cons_self ..))
      have hok := hpi.ok _ (List.mem_cons_self ..)
      have := pm_start hA hpi.wf.nums hx r bu hok.2.2
      rw [e1, hq k] at this
      refine this.mono ?_
      rintro e w' ⟨rfl, y2, h2, s2, b1, b2⟩
      exact ⟨rfl, ⟨y2, h2, hs.trans (hSA.trans s2), b1, b2.trans e2⟩, s2.keeps h' o (heap_alloc_new _ _)⟩
  · rintro k wr o m ⟨y', h', hs, e1, e2⟩ hk hkd
    obtain ⟨hpi, hst⟩ := hstep k hk
    obtain ⟨hA, hSA⟩ := Step.alloc h' o m
    show Calls Tryz.prog 63 #[.pointer (some ⟨y.B (nthC P k).flow, 0, none⟩), .int .i64 (rC (nthC P k)), .int .i64 (buC (nthC P k)), .int .i64 (lC (nthC P k)), .int .i64 (s.clock : Int)] _ _
    have hkd' : kdC (nthC P k) = 1 := hkd
    generalize nthC P k = cm at hpi hst hkd' ⊢
    cases cm with
    | add f r bu => cases hkd'
    | enq f => cases hkd'
    | set f r bu l =>
      obtain ⟨x, hx⟩ := live_look (hpi.live _ (List.mem_cons_self ..))
      have hok := hpi.ok _ (List.mem_cons_self ..)
      have := pm_change hA hpi.wf.nums hx (hpi.wf.F x (Pace.look_some hx).1) hpi.wf.clock r bu l hok.2.2.1 hok.2.2.2.2
      rw [e1] at this
      rw [← hq k]
      refine this.mono ?_
      rintro e w' ⟨rfl, y2, h2, s2, b1, b2⟩
      refine ⟨rfl, ⟨y2, ⟨f, r, bu, l, rfl, h2⟩, hs.trans (hSA.trans s2), b1, b2.trans e2⟩, ?_, s2.keeps h' o (heap_alloc_new _ _)⟩
      exact h2.pb.c1
  · rintro k wr ⟨y', ⟨f, r, bu, l, hcm, h'⟩, hs, e1, e2⟩ hk
    obtain ⟨hpi, hst⟩ := hstep k hk
    rw [hst, hcm]
    rw [hcm] at hpi
    obtain ⟨x, hx⟩ := live_look (hpi.live _ (List.mem_cons_self ..))
    have hpi' := hpi.step
    have hwf := hpi'.wf
    have hxu : Pace.look (Pace.upd (Pace.admit s (P.take k)).fl f fun x => { x with rate := r, burst := bu, cr := min x.cr (l * Pace.parts) }) f = some { x with rate := r, burst := bu, cr := min x.cr (l * Pace.parts) } := by
      rw [Pace.look_upd _ _ _ (by intro x; rfl)]
      have hxx : Pace.look (Pace.admit s (P.take k)).fl f = some x := hx
      rw [hxx]
      simp [(Pace.look_some hxx).2]
    have hmem := (Pace.look_some hxu).1
    have hfl1 : (Pace.adm1 (Pace.admit s (P.take k)) (.set f r bu l)).fl = Pace.upd (Pace.admit s (P.take k)).fl f fun x => { x with rate := r, burst := bu, cr := min x.cr (l * Pace.parts) } := Pace.arm_fl _ _
    have hqq : (Pace.adm1 (Pace.admit s (P.take k)) (.set f r bu l)).q = (Pace.admit s (P.take k)).q := Pace.arm_q _ _
    have hF := hwf.F _ (by rw [hfl1]; exact hmem)
    rw [hqq] at hF
    have hn : f < 9223372036854775808 := by have := hnum k x (Pace.look_some hx).1; rw [(Pace.look_some hx).2] at this; exact this
    have hA8 := Wf_few hpi.wf
    rw [hfl k] at hA8
    have hnd : ((Pace.upd (Pace.admit s (P.take k)).fl f fun x => { x with rate := r, burst := bu, cr := min x.cr (l * Pace.parts) }).map (·.num)).Nodup := by rw [Pace.upd_nums _ _ (by intro x; rfl)]; exact hpi.wf.nums
    have := pm_arm h' hnd hxu hF hpi.wf.q hpi.wf.clock hn (by show (Pace.admit s (P.take k)).A.length < 1000; omega)
    rw [e1] at this
    refine this.mono ?_
    rintro e w' ⟨rfl, y2, h2, s2, b1, b2, _⟩
    exact ⟨rfl, y2, h2, hs.trans s2, b1, b2.trans e2⟩
  · rintro k wr o ⟨y', h', hs, e1, e2⟩ hk hkd
    obtain ⟨hpi, hst⟩ := hstep k hk
    obtain ⟨hA, hSA⟩ := Step.alloc0 h' o
    rw [hst]
    have hkd' : kdC (nthC P k) = 2 := hkd
    show ∃ a : Nat, a < 100 ∧ (wr.alloc o).cell? ⟨y.B (nthC P k).flow, 6, none⟩ = some (.int .i64 (a : Int)) ∧ (wr.alloc o).frozen? ⟨y.B (nthC P k).flow, 6, none⟩ = false ∧
      (a = 0 → Calls Tryz.prog 64 #[.pointer (some ⟨b, 0, none⟩), .pointer (some ⟨y.B (nthC P k).flow, 0, none⟩)] ((wr.alloc o).setCell ⟨y.B (nthC P k).flow, 6, none⟩ (.int .i64 ((a : Int) + 1))) fun e w' => e = .returned (.tuple #[]) ∧ ∃ y', PM w' b y' (Pace.adm1 (Pace.admit s (P.take k)) (nthC P k)) nw P c ∧ Step w w' y y' ∧ y'.B = y.B ∧ y'.pv = y.pv) ∧
      (a ≠ 0 → ∃ y', PM ((wr.alloc o).setCell ⟨y.B (nthC P k).flow, 6, none⟩ (.int .i64 ((a : Int) + 1))) b y' (Pace.adm1 (Pace.admit s (P.take k)) (nthC P k)) nw P c ∧ Step w ((wr.alloc o).setCell ⟨y.B (nthC P k).flow, 6, none⟩ (.int .i64 ((a : Int) + 1))) y y' ∧ y'.B = y.B ∧ y'.pv = y.pv)
    generalize nthC P k = cm at hpi hst hkd' ⊢
    cases cm with
    | add f r bu => cases hkd'
    | set f r bu l => cases hkd'
    | enq f =>
      obtain ⟨x, hx⟩ := live_look (hpi.live _ (List.mem_cons_self ..))
      have hx : Pace.look (Pace.admit s (P.take k)).fl f = some x := hx
      obtain ⟨h1, h2, h3, _⟩ := hA.at_flow hx
      rw [e1] at h1
      have hFx := hpi.wf.F x (Pace.look_some hx).1
      obtain ⟨y2, hP2, s2, b1, b2⟩ := pm_adm hA hpi.wf.nums hx
      rw [e1] at hP2 s2
      refine ⟨x.adm, by have := hFx.adm; have := hFx.few; omega, h1.c6, h1.fz 6, ?_, ?_⟩
      · intro h0
        have hpi' := hpi.step
        have hadm : Pace.adm1 (Pace.admit s (P.take k)) (.enq f) = Pace.arm { Pace.admit s (P.take k) with fl := Pace.upd (Pace.admit s (P.take k)).fl f fun x => { x with adm := x.adm + 1 } } f := by
          unfold Pace.adm1
          simp only [hx, h0, if_true]
        have hfl1 : (Pace.adm1 (Pace.admit s (P.take k)) (.enq f)).fl = Pace.upd (Pace.admit s (P.take k)).fl f fun x => { x with adm := x.adm + 1 } := by rw [hadm]; exact Pace.arm_fl _ _
        have hqq : (Pace.adm1 (Pace.admit s (P.take k)) (.enq f)).q = (Pace.admit s (P.take k)).q := by rw [hadm]; exact Pace.arm_q _ _
        have hxu : Pace.look (Pace.upd (Pace.admit s (P.take k)).fl f fun x => { x with adm := x.adm + 1 }) f = some { x with adm := x.adm + 1 } := by
          rw [Pace.look_upd _ _ _ (by intro x; rfl), hx]
          simp [(Pace.look_some hx).2]
        have hF := hpi'.wf.F _ (by rw [hfl1]; exact (Pace.look_some hxu).1)
        rw [hqq] at hF
        have hn : f < 9223372036854775808 := by have := hnum k x (Pace.look_some hx).1; rw [(Pace.look_some hx).2] at this; exact this
        have hA8 := Wf_few hpi.wf
        rw [hfl k] at hA8
        have hnd : ((Pace.upd (Pace.admit s (P.take k)).fl f fun x => { x with adm := x.adm + 1 }).map (·.num)).Nodup := by rw [Pace.upd_nums _ _ (by intro x; rfl)]; exact hpi.wf.nums
        have := pm_arm hP2 hnd hxu hF hpi.wf.q hpi.wf.clock hn (by show (Pace.admit s (P.take k)).A.length < 1000; omega)
        rw [b1, e1] at this
        rw [hadm]
        refine this.mono ?_
        rintro e w' ⟨rfl, y3, h3, s3, c1, c2, _⟩
        exact ⟨rfl, y3, h3, hs.trans (hSA.trans (s2.trans s3)), c1, c2.trans (b2.trans e2)⟩
      · intro h0
        have hadm : Pace.adm1 (Pace.admit s (P.take k)) (.enq f) = { Pace.admit s (P.take k) with fl := Pace.upd (Pace.admit s (P.take k)).fl f fun x => { x with adm := x.adm + 1 } } := by
          unfold Pace.adm1
          simp only [hx, h0, if_false]
        rw [hadm]
        exact ⟨y2, hP2, hs.trans (hSA.trans s2), b1.trans e1, b2.trans e2⟩
  · rintro wr ⟨y', h', _⟩
    exact ⟨⟨_, h'.pb.c4⟩, h'.fz 4⟩
  · rintro e w' ⟨rfl, wr, ⟨y', h', hs, e1, e2⟩, rfl⟩
    rw [List.take_length] at h'
    exact ⟨rfl, wr, y', h', hs, e1, rfl⟩
end Go.Proofs.YtogdekjklbbbiaaGreatDoor
