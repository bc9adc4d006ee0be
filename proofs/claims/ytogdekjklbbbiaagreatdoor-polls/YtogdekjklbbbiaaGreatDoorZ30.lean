import Derived.Test.YtogdekjklbbbiaaGreatDoorPm
set_option maxRecDepth 100000
namespace Go.Proofs.YtogdekjklbbbiaaGreatDoor
open Go.ChangeShapes Go.WideShapes Go.ChangeAt Go.RowKit
set_option linter.unusedSimpArgs false
set_option linter.unusedVariables false

/-- The document's commands, as cells. -/
def askC : Pace.Cmd → List Value
  | .add f r b => [.int .i64 1, .int .i64 (f : Int), .int .i64 (r : Int), .int .i64 (b : Int)]
  | .set f r b _ => [.int .i64 2, .int .i64 (f : Int), .int .i64 (r : Int), .int .i64 (b : Int)]
  | .enq f => [.int .i64 3, .int .i64 (f : Int), .int .i64 0, .int .i64 0]
def asksC (P : List Pace.Cmd) : List Value := P.flatMap askC
theorem askC_length (c : Pace.Cmd) : (askC c).length = 4 := by cases c <;> rfl
theorem asksC_length (P : List Pace.Cmd) : (asksC P).length = P.length * 4 := by
  induction P with
  | nil => rfl
  | cons p l ih => simp only [asksC, List.flatMap_cons, List.length_append, List.length_cons, askC_length] at ih ⊢; omega

/-- A flow of the document's in memory. -/
structure RA (w : World) (x : Nat) (f : Pace.Fl) (cr ls ar at' tn : Nat) (v : Value) : Prop where
  c0 : w.cell? ⟨x, 0, none⟩ = some (.int .i64 (f.num : Int))
  c1 : w.cell? ⟨x, 1, none⟩ = some (.int .i64 (f.rate : Int))
  c2 : w.cell? ⟨x, 2, none⟩ = some (.int .i64 (f.burst : Int))
  c3 : ∃ z : Bool, w.cell? ⟨x, 3, none⟩ = some (.bool z)
  c4 : w.cell? ⟨x, 4, none⟩ = some v
  c5 : w.cell? ⟨x, 5, none⟩ = some (.int .i64 (f.adm : Int))
  c6 : w.cell? ⟨x, 6, none⟩ = some (.int .i64 (cr : Int))
  c7 : w.cell? ⟨x, 7, none⟩ = some (.int .i64 (ls : Int))
  c8 : w.cell? ⟨x, 8, none⟩ = some (.int .i64 (ar : Int))
  c9 : w.cell? ⟨x, 9, none⟩ = some (.int .i64 (at' : Int))
  c10 : w.cell? ⟨x, 10, none⟩ = some (.int .i64 (tn : Int))
  row : w.ownsRow 0 196 2 v f.pk.length (pkC f.pk)
  fz : ∀ o, w.frozen? ⟨x, o, none⟩ = false

/-- Where the document's pacer lies. -/
structure RL where
  tag : Nat → Tag
  B : Nat → Nat
  V : Nat → Value
  cr : Nat → Nat
  ls : Nat → Nat
  ar : Nat → Nat
  at' : Nat → Nat
  tn : Nat → Nat
  fv : Value
  pv : Value
def RL.own (y : RL) (k : Nat) : Prop := y.tag k ≠ .none

/-- The document's pacer's own block. -/
structure RB (w : World) (b : Nat) (q ck nw tu : Nat) (fv pv : Value) (c : Cn) : Prop where
  c0 : w.cell? ⟨b, 0, none⟩ = some (.int .i64 (q : Int))
  c1 : w.cell? ⟨b, 1, none⟩ = some (.bool false)
  c2 : w.cell? ⟨b, 2, none⟩ = some (.int .i64 (ck : Int))
  c3 : w.cell? ⟨b, 3, none⟩ = some fv
  c4 : w.cell? ⟨b, 4, none⟩ = some pv
  c5 : w.cell? ⟨b, 5, none⟩ = some (.int .i64 (nw : Int))
  c6 : w.cell? ⟨b, 6, none⟩ = some (.int .i64 (tu : Int))
  c7 : w.cell? ⟨b, 7, none⟩ = some (.int .i64 (c.taken : Int))
  c8 : w.cell? ⟨b, 8, none⟩ = some (.int .i64 (c.refused : Int))
  c9 : w.cell? ⟨b, 9, none⟩ = some (.int .i64 (c.sent : Int))
  c10 : w.cell? ⟨b, 10, none⟩ = some (.int .i64 (c.dropped : Int))
  c11 : w.cell? ⟨b, 11, none⟩ = some (.int .i64 (c.read : Int))
  c12 : w.cell? ⟨b, 12, none⟩ = some (.int .i64 (c.bad : Int))

/-- Which flows are armed, and in which order. -/
structure RArm (fl : List Pace.Fl) (A : List Pace.Ar) (ar at' tn : Nat → Nat) (tu : Nat) : Prop where
  inn : ∀ a ∈ A, ar a.num = a.k ∧ at' a.num = a.at'
  out : ∀ f ∈ fl, (∀ a ∈ A, a.num ≠ f.num) → ar f.num = 0
  ord : A.Pairwise (fun a b => tn a.num < tn b.num)
  le : ∀ a ∈ A, tn a.num ≤ tu

/-- The document's pacer in memory. -/
structure RM (w : World) (b : Nat) (y : RL) (s : Pace.St) (nw tu : Nat) (P : List Pace.Cmd) (c : Cn) : Prop where
  tb : y.tag b = .self
  t0 : y.tag 0 = .none
  lt : ∀ k, y.own k → k < w.heap.size
  fz : ∀ o, w.frozen? ⟨b, o, none⟩ = false
  rb : RB w b s.q s.clock nw tu y.fv y.pv c
  rf : w.ownsRow 0 183 1 y.fv s.fl.length (s.fl.map fun f => Value.pointer (some ⟨y.B f.num, 0, none⟩))
  tf : ∀ g, y.fv.ownBlock = some g → y.tag g = .rowF
  rp : w.ownsRow 0 187 4 y.pv P.length (asksC P)
  tp : ∀ g, y.pv.ownBlock = some g → y.tag g = .rowP
  fl : ∀ f ∈ s.fl, RA w (y.B f.num) f (y.cr f.num) (y.ls f.num) (y.ar f.num) (y.at' f.num) (y.tn f.num) (y.V f.num)
  fc : ∀ f ∈ s.fl, FC s.clock f (y.cr f.num) (y.ls f.num)
  tl : ∀ f ∈ s.fl, y.tag (y.B f.num) = .flow f.num
  tk : ∀ f ∈ s.fl, ∀ g, (y.V f.num).ownBlock = some g → y.tag g = .pk f.num
  arm : RArm s.fl s.A y.ar y.at' y.tn tu

theorem RA.kept {w w' : World} {x : Nat} {f : Pace.Fl} {cr ls ar at' tn : Nat} {v : Value} (h : RA w x f cr ls ar at' tn v) (hx : w'.heap[x]? = w.heap[x]?) (hv : ∀ g, v.ownBlock = some g → w'.heap[g]? = w.heap[g]?) : RA w' x f cr ls ar at' tn v := by
  have hc : ∀ o, w'.cell? ⟨x, o, none⟩ = w.cell? ⟨x, o, none⟩ := fun o => World.cell?_of_block (w := w) (a := ⟨x, o, none⟩) hx
  exact ⟨by rw [hc]; exact h.c0, by rw [hc]; exact h.c1, by rw [hc]; exact h.c2, by rw [hc]; exact h.c3, by rw [hc]; exact h.c4, by rw [hc]; exact h.c5, by rw [hc]; exact h.c6, by rw [hc]; exact h.c7, by rw [hc]; exact h.c8, by rw [hc]; exact h.c9, by rw [hc]; exact h.c10, row_kept h.row hv, fun o => (frozen_of hx o).trans (h.fz o)⟩
theorem RB.kept {w w' : World} {b q ck nw tu : Nat} {fv pv : Value} {c : Cn} (h : RB w b q ck nw tu fv pv c) (hx : w'.heap[b]? = w.heap[b]?) : RB w' b q ck nw tu fv pv c := by
  have hc : ∀ o, w'.cell? ⟨b, o, none⟩ = w.cell? ⟨b, o, none⟩ := fun o => World.cell?_of_block (w := w) (a := ⟨b, o, none⟩) hx
  exact ⟨by rw [hc]; exact h.c0, by rw [hc]; exact h.c1, by rw [hc]; exact h.c2, by rw [hc]; exact h.c3, by rw [hc]; exact h.c4, by rw [hc]; exact h.c5, by rw [hc]; exact h.c6, by rw [hc]; exact h.c7, by rw [hc]; exact h.c8, by rw [hc]; exact h.c9, by rw [hc]; exact h.c10, by rw [hc]; exact h.c11, by rw [hc]; exact h.c12⟩

/-- One call's step: what is not its own, and was there, is as it was, and stays not its own. -/
structure StpR (w w' : World) (y y' : RL) : Prop where
  fr : Fr w w' y.own
  ext : ∀ k, k < w.heap.size → y.tag k = .none → y'.tag k = .none
theorem StpR.refl (w : World) (y : RL) : StpR w w y y := ⟨Fr.refl _ _, fun _ _ h => h⟩
theorem StpR.trans {a b c : World} {x y z : RL} (h : StpR a b x y) (k : StpR b c y z) : StpR a c x z :=
  ⟨h.fr.trans k.fr fun n hn q e => q (h.ext n hn e), fun n hn e => k.ext n (Nat.lt_of_lt_of_le hn h.fr.size) (h.ext n hn e)⟩

theorem RM.own_of {w : World} {b : Nat} {y : RL} {s : Pace.St} {nw tu : Nat} {P : List Pace.Cmd} {c : Cn} (h : RM w b y s nw tu P c) {k : Nat} {t : Tag} (e : y.tag k = t) (hn : t ≠ .none) : y.own k := fun q => hn (e.symm.trans q)
theorem RM.ow {w : World} {b : Nat} {y : RL} {s : Pace.St} {nw tu : Nat} {P : List Pace.Cmd} {c : Cn} (h : RM w b y s nw tu P c) : y.own b := h.own_of h.tb (by simp)

/-- It hangs on its own blocks alone. -/
theorem RM.kept {w w' : World} {b : Nat} {y : RL} {s : Pace.St} {nw tu : Nat} {P : List Pace.Cmd} {c : Cn} (h : RM w b y s nw tu P c) {O : Nat → Prop} (hf : Fr w w' O) (hd : ∀ k, y.own k → ¬ O k) : RM w' b y s nw tu P c := by
  have hk : ∀ k, y.own k → w'.heap[k]? = w.heap[k]? := fun k hO => hf.blk k (h.lt k hO) (hd k hO)
  refine ⟨h.tb, h.t0, fun k hO => Nat.lt_of_lt_of_le (h.lt k hO) hf.size, fun o => (frozen_of (hk b h.ow) o).trans (h.fz o), h.rb.kept (hk b h.ow),
    row_kept h.rf fun g hg => hk g (h.own_of (h.tf g hg) (by simp)), h.tf, row_kept h.rp fun g hg => hk g (h.own_of (h.tp g hg) (by simp)), h.tp, ?_, h.fc, h.tl, h.tk, h.arm⟩
  exact fun f hfl => (h.fl f hfl).kept (hk _ (h.own_of (h.tl f hfl) (by simp))) fun g hg => hk g (h.own_of (h.tk f hfl g hg) (by simp))
theorem RM.drew {w : World} {b : Nat} {y : RL} {s : Pace.St} {nw tu : Nat} {P : List Pace.Cmd} {c : Cn} (h : RM w b y s nw tu P c) : RM w.drew b y s nw tu P c := h.kept (O := fun _ => False) (Fr.refl _ _).drew fun _ _ q => q
theorem RM.drewN {w : World} {b : Nat} {y : RL} {s : Pace.St} {nw tu : Nat} {P : List Pace.Cmd} {c : Cn} (h : RM w b y s nw tu P c) (n : Nat) : RM (w.drewN n) b y s nw tu P c := h.kept (O := fun _ => False) ((Fr.refl _ _).drewN n) fun _ _ q => q

/-- One flow has turned, and the pacer's own block may have. -/
theorem RM.flow {w w' : World} {b : Nat} {y : RL} {s : Pace.St} {nw tu : Nat} {P : List Pace.Cmd} {c : Cn} (h : RM w b y s nw tu P c) {n : Nat} {f f' : Pace.Fl} (hn : Pace.look s.fl n = some f) (hf' : f'.num = n) {cr ls ar at' tn tu' : Nat} {v : Value} {c' : Cn} {A' : List Pace.Ar}
    {O : Nat → Prop} (hfr : Fr w w' O) (hOt : ∀ k, O k → k = b ∨ y.tag k = .flow n ∨ y.tag k = .pk n ∨ y.tag k = .none) (hRB : RB w' b s.q s.clock nw tu' y.fv y.pv c') (hfz : ∀ o, w'.frozen? ⟨b, o, none⟩ = false) (hRA : RA w' (y.B n) f' cr ls ar at' tn v) (hFC : FC s.clock f' cr ls)
    (hv : ∀ g, v.ownBlock = some g → ((y.V n).ownBlock = some g ∨ w.heap.size ≤ g)) (hAR : RArm (Pace.upd s.fl n (fun _ => f')) A' (upd y.ar n ar) (upd y.at' n at') (upd y.tn n tn) tu') :
    ∃ y', RM w' b y' { s with fl := Pace.upd s.fl n (fun _ => f'), A := A' } nw tu' P c' ∧ (∀ k, k < w.heap.size → y.tag k = .none → y'.tag k = .none) ∧ y'.B = y.B ∧ y'.cr = upd y.cr n cr ∧ y'.ls = upd y.ls n ls ∧ y'.ar = upd y.ar n ar ∧ y'.at' = upd y.at' n at' ∧ y'.tn = upd y.tn n tn ∧ y'.V = upd y.V n v ∧ y'.fv = y.fv ∧ y'.pv = y.pv ∧ ∀ k, v.ownBlock ≠ some k → y'.tag k = y.tag k := by
  obtain ⟨hfm, hfn⟩ := Pace.look_some hn
  have hk : ∀ k t, y.tag k = t → t ≠ .none → t ≠ .self → t ≠ .flow n → t ≠ .pk n → w'.heap[k]? = w.heap[k]? := fun k t e h1 h0 h2 h3 => hfr.blk k (h.lt k (h.own_of e h1)) fun q => by
    rcases hOt k q with q | q | q | q
    · rw [q, h.tb] at e; exact h0 e.symm
    · exact h2 (e.symm.trans q)
    · exact h3 (e.symm.trans q)
    · exact h1 (e.symm.trans q)
  have hvl : ∀ g, v.ownBlock = some g → g < w'.heap.size := fun g hg => (hRA.row.lt g hg).2
  have hvt : ∀ k, k < w.heap.size → y.tag k ≠ .pk n → v.ownBlock ≠ some k := fun k hkl hkt e => by
    rcases hv k e with q | q
    · have := h.tk f hfm k (by rw [hfn]; exact q)
      rw [hfn] at this
      exact hkt this
    · omega
  have hvo : ∀ k t, y.tag k = t → t ≠ .none → t ≠ .pk n → v.ownBlock ≠ some k := fun k t e h1 h2 => hvt k (h.lt k (h.own_of e h1)) (by rw [e]; exact h2)
  have hmem : ∀ x ∈ Pace.upd s.fl n (fun _ => f'), (x = f') ∨ (x ∈ s.fl ∧ x.num ≠ n) := fun x hx => by
    obtain ⟨z, hz, ⟨q1, q2⟩ | ⟨q1, q2⟩⟩ := Pace.mem_upd hx
    · exact .inl q2
    · rw [q2]; exact .inr ⟨hz, q1⟩
  refine ⟨{ y with tag := fun k => if v.ownBlock = some k then .pk n else y.tag k, V := upd y.V n v, cr := upd y.cr n cr, ls := upd y.ls n ls, ar := upd y.ar n ar, at' := upd y.at' n at', tn := upd y.tn n tn }, ⟨?_, ?_, ?_, hfz, hRB, ?_, ?_, ?_, ?_, ?_, ?_, ?_, ?_, hAR⟩, ?_, rfl, rfl, rfl, rfl, rfl, rfl, rfl, rfl, rfl, fun k hk' => if_neg hk'⟩
  · show (if _ then _ else _) = _
    rw [if_neg (hvo b _ h.tb (by simp) (by simp))]; exact h.tb
  · show (if _ then _ else _) = _
    rw [if_neg (hvt 0 (Nat.lt_of_le_of_lt (Nat.zero_le _) (h.lt b h.ow)) (by rw [h.t0]; simp))]; exact h.t0
  · intro k hO
    have hO' : (if v.ownBlock = some k then Tag.pk n else y.tag k) ≠ .none := hO
    by_cases q : v.ownBlock = some k
    · exact hvl k q
    · rw [if_neg q] at hO'
      exact Nat.lt_of_lt_of_le (h.lt k hO') hfr.size
  · have e : (Pace.upd s.fl n (fun _ => f')).map (fun x => Value.pointer (some ⟨y.B x.num, 0, none⟩)) = s.fl.map fun x => Value.pointer (some ⟨y.B x.num, 0, none⟩) := by
      unfold Pace.upd
      rw [List.map_map]
      apply List.map_congr_left
      intro x hx
      show Value.pointer (some ⟨y.B (if x.num = n then f' else x).num, 0, none⟩) = _
      split
      · rename_i q; rw [hf', q]
      · rfl
    have e2 : (Pace.upd s.fl n (fun _ => f')).length = s.fl.length := by simp [Pace.upd]
    show w'.ownsRow 0 183 1 y.fv (Pace.upd s.fl n (fun _ => f')).length ((Pace.upd s.fl n (fun _ => f')).map _)
    rw [e, e2]
    exact row_kept h.rf fun g hg => hk g _ (h.tf g hg) (by simp) (by simp) (by simp) (by simp)
  · intro g hg
    show (if _ then _ else _) = _
    rw [if_neg (hvo g _ (h.tf g hg) (by simp) (by simp))]; exact h.tf g hg
  · exact row_kept h.rp fun g hg => hk g _ (h.tp g hg) (by simp) (by simp) (by simp) (by simp)
  · intro g hg
    show (if _ then _ else _) = _
    rw [if_neg (hvo g _ (h.tp g hg) (by simp) (by simp))]; exact h.tp g hg
  · intro x hx
    rcases hmem x hx with rfl | ⟨q1, q2⟩
    · rw [hf']
      simp only [upd_same]
      exact hRA
    · simp only [upd_other _ _ q2]
      refine (h.fl x q1).kept (hk _ _ (h.tl x q1) (by simp) (by simp) (by simpa using q2) (by simp)) fun g hg => hk g _ (h.tk x q1 g hg) (by simp) (by simp) (by simp) (by simpa using q2)
  · intro x hx
    rcases hmem x hx with rfl | ⟨q1, q2⟩
    · rw [hf']
      simp only [upd_same]
      exact hFC
    · simp only [upd_other _ _ q2]
      exact h.fc x q1
  · intro x hx
    have hBt : ∀ z ∈ s.fl, (if v.ownBlock = some (y.B z.num) then Tag.pk n else y.tag (y.B z.num)) = .flow z.num := fun z hz => by
      rw [if_neg (hvo _ _ (h.tl z hz) (by simp) (by simp))]; exact h.tl z hz
    rcases hmem x hx with rfl | ⟨q1, q2⟩
    · have := hBt f hfm
      rw [hfn] at this
      rw [hf']
      exact this
    · exact hBt x q1
  · intro x hx g hg
    show (if _ then _ else _) = _
    rcases hmem x hx with rfl | ⟨q1, q2⟩
    · rw [hf'] at hg ⊢
      simp only [upd_same] at hg
      rw [if_pos hg]
    · simp only [upd_other _ _ q2] at hg
      rw [if_neg (hvo g _ (h.tk x q1 g hg) (by simp) (by simpa using q2))]
      exact h.tk x q1 g hg
  · intro k hk' e
    show (if _ then _ else _) = _
    rw [if_neg (hvt k hk' (by rw [e]; simp))]; exact e

/-- The pacer's own block has turned, and the row of commands may have. -/
theorem RM.self {w w' : World} {b : Nat} {y : RL} {s : Pace.St} {nw tu : Nat} {P : List Pace.Cmd} {c : Cn} (h : RM w b y s nw tu P c) {nw' : Nat} {pv' : Value} {P' : List Pace.Cmd} {c' : Cn}
    {O : Nat → Prop} (hfr : Fr w w' O) (hOt : ∀ k, O k → k = b ∨ y.tag k = .rowP ∨ y.tag k = .none) (hRB : RB w' b s.q s.clock nw' tu y.fv pv' c') (hfz : ∀ o, w'.frozen? ⟨b, o, none⟩ = false) (hrp : w'.ownsRow 0 187 4 pv' P'.length (asksC P'))
    (hv : ∀ g, pv'.ownBlock = some g → (y.pv.ownBlock = some g ∨ w.heap.size ≤ g)) :
    ∃ y', RM w' b y' s nw' tu P' c' ∧ (∀ k, k < w.heap.size → y.tag k = .none → y'.tag k = .none) ∧ y'.B = y.B ∧ y'.cr = y.cr ∧ y'.ls = y.ls ∧ y'.ar = y.ar ∧ y'.at' = y.at' ∧ y'.tn = y.tn ∧ y'.V = y.V ∧ y'.fv = y.fv ∧ y'.pv = pv' := by
  have hk : ∀ k t, y.tag k = t → t ≠ .none → t ≠ .self → t ≠ .rowP → w'.heap[k]? = w.heap[k]? := fun k t e h1 h0 h2 => hfr.blk k (h.lt k (h.own_of e h1)) fun q => by
    rcases hOt k q with q | q | q
    · rw [q, h.tb] at e; exact h0 e.symm
    · exact h2 (e.symm.trans q)
    · exact h1 (e.symm.trans q)
  have hvl : ∀ g, pv'.ownBlock = some g → g < w'.heap.size := fun g hg => (hrp.lt g hg).2
  have hvt : ∀ k, k < w.heap.size → y.tag k ≠ .rowP → pv'.ownBlock ≠ some k := fun k hkl hkt e => by
    rcases hv k e with q | q
    · exact hkt (h.tp k q)
    · omega
  have hvo : ∀ k t, y.tag k = t → t ≠ .none → t ≠ .rowP → pv'.ownBlock ≠ some k := fun k t e h1 h2 => hvt k (h.lt k (h.own_of e h1)) (by rw [e]; exact h2)
  refine ⟨{ y with tag := fun k => if pv'.ownBlock = some k then .rowP else y.tag k, pv := pv' }, ⟨?_, ?_, ?_, hfz, hRB, ?_, ?_, hrp, ?_, ?_, h.fc, ?_, ?_, h.arm⟩, ?_, rfl, rfl, rfl, rfl, rfl, rfl, rfl, rfl, rfl⟩
  · show (if _ then _ else _) = _
    rw [if_neg (hvo b _ h.tb (by simp) (by simp))]; exact h.tb
  · show (if _ then _ else _) = _
    rw [if_neg (hvt 0 (Nat.lt_of_le_of_lt (Nat.zero_le _) (h.lt b h.ow)) (by rw [h.t0]; simp))]; exact h.t0
  · intro k hO
    have hO' : (if pv'.ownBlock = some k then Tag.rowP else y.tag k) ≠ .none := hO
    by_cases q : pv'.ownBlock = some k
    · exact hvl k q
    · rw [if_neg q] at hO'
      exact Nat.lt_of_lt_of_le (h.lt k hO') hfr.size
  · exact row_kept h.rf fun g hg => hk g _ (h.tf g hg) (by simp) (by simp) (by simp)
  · intro g hg
    show (if _ then _ else _) = _
    rw [if_neg (hvo g _ (h.tf g hg) (by simp) (by simp))]; exact h.tf g hg
  · intro g hg
    show (if _ then _ else _) = _
    rw [if_pos hg]
  · exact fun f hfl => (h.fl f hfl).kept (hk _ _ (h.tl f hfl) (by simp) (by simp) (by simp)) fun g hg => hk g _ (h.tk f hfl g hg) (by simp) (by simp) (by simp)
  · intro f hfl
    show (if _ then _ else _) = _
    rw [if_neg (hvo _ _ (h.tl f hfl) (by simp) (by simp))]; exact h.tl f hfl
  · intro f hfl g hg
    show (if _ then _ else _) = _
    rw [if_neg (hvo g _ (h.tk f hfl g hg) (by simp) (by simp))]; exact h.tk f hfl g hg
  · intro k hk' e
    show (if _ then _ else _) = _
    rw [if_neg (hvt k hk' (by rw [e]; simp))]; exact e
end Go.Proofs.YtogdekjklbbbiaaGreatDoor

namespace Go.Proofs.YtogdekjklbbbiaaGreatDoor
open Go.ChangeShapes Go.WideShapes Go.ChangeAt Go.RowKit
set_option linter.unusedSimpArgs false
set_option linter.unusedVariables false

theorem acc_nat (c r m t : Nat) (h : c ≤ m) : acc (c : Int) (r : Int) (m : Int) (t : Int) = (Pace.acc c r m t : Int) := by
  unfold acc Pace.acc
  rw [if_neg (by omega)]
  have e : (r : Int) * (t : Int) = ((r * t : Nat) : Int) := by simp
  rw [e]
  split <;> omega
theorem accE_nat (c r m t : Nat) (h : c ≤ m) : accE (c : Int) (r : Int) (m : Int) (t : Int) = 0 := by
  unfold accE
  rw [if_neg (by omega)]
theorem unt_nat (c r m : Nat) (hr : 0 < r) : unt (c : Int) (r : Int) (m : Int) = (Pace.til c r m : Int) ∧ untE (c : Int) (r : Int) (m : Int) = 0 := by
  have h0 : ¬ ((c : Int) < 0 ∨ (r : Int) < 0 ∨ (m : Int) < 0) := by omega
  have hr0 : ¬ ((r : Int) = 0) := by omega
  by_cases h : m ≤ c
  · have h' : (m : Int) ≤ (c : Int) := by omega
    simp only [unt, untE, Pace.til, if_neg h0, if_pos h', if_pos h]
    exact ⟨rfl, trivial⟩
  · have h' : ¬ (m : Int) ≤ (c : Int) := by omega
    simp only [unt, untE, Pace.til, if_neg h0, if_neg h', if_neg h, if_neg hr0]
    refine ⟨?_, trivial⟩
    have e1 : m - c + (r - 1) = (m - c - 1) + r := by omega
    have e2 : ((m : Int) - (c : Int) - 1) = ((m - c - 1 : Nat) : Int) := by omega
    rw [e1, Nat.add_div_right _ hr, e2]
    simp
theorem FA.ch {w w' : World} {x : Nat} {f : Pace.Fl} {cr rk bt : Nat} {v : Value} (h : FA w x f cr rk bt v) (hvx : v.ownBlock ≠ some x) {S : Nat → Nat → Prop} (hc : Ch w w' S) (hS : ∀ a o, S a o → a = x) : w'.ownsRow 0 87 2 v f.pk.length (pkC f.pk) ∧ ∀ o, w'.frozen? ⟨x, o, none⟩ = false := by
  refine ⟨row_kept h.row fun g hg => hc.blk g fun o q => hvx ?_, fun o => (hc.fz _).trans (h.fz o)⟩
  rw [hg, hS g o q]
theorem fl_accrue {w : World} {x : Nat} {f : Pace.Fl} {cr rk bt ck q : Nat} {v : Value} (h : FA w x f cr rk bt v) (hC : FC ck f cr rk) (hF : Pace.FOk q f) (hck : ck ≤ 4000000000000000000) (hvx : v.ownBlock ≠ some x) :
    Calls Tryz.prog 110 #[.pointer (some ⟨x, 0, none⟩), .int .i64 (ck : Int)] w fun e w' => e = .returned (.tuple #[]) ∧ Ch w w' (fun a o => a = x ∧ (o = 3 ∨ o = 4)) ∧ FA w' x f f.cr ck bt v := by
  have hp := Pace.parts_eq
  have hb : f.burst ≤ 1000000 := by rcases hF.burst with ⟨q, _⟩ | ⟨_, q⟩ <;> omega
  have hr := hF.rate
  have hcle := hC.cle
  have hrk := hC.rle
  rw [hp] at hcle
  have heq := hC.eq
  rw [hp] at heq
  have hcb : cr ≤ 1000000000000000 := by omega
  refine (accrue_walk x (cr : Int) (f.rate : Int) (f.burst : Int) (rk : Int) (ck : Int) (f.cr : Int) 0 w h.c1 h.c2 h.c3 h.c4 h.fz (by omega) (by omega) (by omega) (by omega) (by omega) fun W => ?_).mono ?_
  · have hA := accrue_any (cr : Int) (f.rate : Int) ((f.burst * 1000000000 : Nat) : Int) ((ck - rk : Nat) : Int) (by omega) (by omega) (by omega) (by omega) W
    rw [acc_nat _ _ _ _ hcle, accE_nat _ _ _ _ hcle, ← heq] at hA
    rw [show ((f.burst : Int) * 1000000000) = ((f.burst * 1000000000 : Nat) : Int) by omega, show (ck : Int) - (rk : Int) = ((ck - rk : Nat) : Int) by omega]
    exact hA
  · rintro e w' ⟨rfl, h1, h2, h3⟩
    obtain ⟨a1, a2⟩ := h.ch hvx h1 (fun a o q => q.1)
    have hc : ∀ o, o ≠ 3 → o ≠ 4 → w'.cell? ⟨x, o, none⟩ = w.cell? ⟨x, o, none⟩ := fun o o1 o2 => h1.cell x o (by omega)
    exact ⟨rfl, h1, ⟨by rw [hc 0 (by omega) (by omega)]; exact h.c0, by rw [hc 1 (by omega) (by omega)]; exact h.c1, by rw [hc 2 (by omega) (by omega)]; exact h.c2, h2, h3, by rw [hc 5 (by omega) (by omega)]; exact h.c5, by rw [hc 6 (by omega) (by omega)]; exact h.c6, by rw [hc 7 (by omega) (by omega)]; exact h.c7, a1, a2⟩⟩
theorem pkC_get : ∀ (pk : List (Int × Nat)) (k : Nat) (p : Int × Nat), pk[k]? = some p → (pkC pk)[k * 2]? = some (.int .i64 p.1) ∧ (pkC pk)[k * 2 + 1]? = some (.int .i64 (p.2 : Int))
  | [], k, p, h => by simp at h
  | q :: pk, 0, p, h => by simp at h; subst h; exact ⟨rfl, rfl⟩
  | q :: pk, k + 1, p, h => by
    have := pkC_get pk k p (by simpa using h)
    have e : pkC (q :: pk) = .int .i64 q.1 :: .int .i64 (q.2 : Int) :: pkC pk := rfl
    rw [e, show (k + 1) * 2 = k * 2 + 1 + 1 by omega]
    simpa using this
theorem row_get {w : World} {e sz n g cap : Nat} {xs : List Value} (h : w.ownsRow 0 e sz (.slice (some ⟨g, 0, none⟩) n cap) n xs) {j : Nat} {u : Value} (hu : xs[j]? = some u) : w.cell? ⟨g, j, none⟩ = some u := by
  have := h.cells (g := g) rfl j u hu
  rw [add_lit, Nat.zero_add] at this
  exact this
theorem upd_look {l : List Pace.Fl} (hnd : (l.map (·.num)).Nodup) {n : Nat} {f : Pace.Fl} (h : Pace.look l n = some f) : Pace.upd l n (fun _ => f) = l := by
  obtain ⟨h1, h2⟩ := Pace.look_some h
  unfold Pace.upd
  conv => rhs; rw [← List.map_id l]
  apply List.map_congr_left
  intro x hx
  show (if x.num = n then f else x) = x
  split
  · rename_i q
    have := Pace.look_of_mem hnd hx
    rw [q, h] at this
    injection this
  · rfl
theorem til_need' {f : Pace.Fl} {q : Nat} (hb : f.burst ≤ 1000000) (hq : q ≤ 1000000) (hr : 0 < f.rate) : Pace.til f.cr f.rate (Pace.bytes (f.pk.take (f.size q)) * Pace.parts) ≤ 1000000000000000 := by
  have h1 := Pace.til_need (c := f.cr) (n := Pace.bytes (f.pk.take (f.size q)) * Pace.parts) hr
  have h2 := Pace.Fl.size_room q f
  have hp := Pace.parts_eq
  rw [hp] at h1 ⊢
  omega
/-- A flow makes up its batch. -/
theorem fl_arm {w : World} {x : Nat} {f : Pace.Fl} {cr rk bt ck q : Nat} {v : Value} (h : FA w x f cr rk bt v) (hC : FC ck f cr rk) (hF : Pace.FOk q f) (hq : 1500 ≤ q ∧ q ≤ 1000000) (hck : ck ≤ 4000000000000000000) (hvx : v.ownBlock ≠ some x) (ha : 0 < f.adm) (hr : 0 < f.rate) :
    Calls Tryz.prog 112 #[.pointer (some ⟨x, 0, none⟩), .int .i64 (q : Int), .int .i64 (ck : Int)] w fun e w' => e = .returned (.int .i64 ((f.instant q ck : Nat) : Int)) ∧ Ch w w' (fun a o => a = x ∧ (o = 3 ∨ o = 4 ∨ o = 7)) ∧ FA w' x f f.cr ck (f.size q) v := by
  have hp := Pace.parts_eq
  have hb : f.burst ≤ 1000000 := by rcases hF.burst with ⟨q, _⟩ | ⟨_, q⟩ <;> omega
  have hadm := hF.adm
  have hfew := hF.few
  obtain ⟨g, cap, hv, _, hgl, hvg, hnc, _⟩ := row_shape h.row (by omega)
  have hgx : g ≠ x := fun e => hvx (by rw [hvg, e])
  have hrow := h.row
  rw [hv] at hrow
  have hlt : (f.pk.take f.adm).length = f.adm := by rw [List.length_take]; omega
  have hti := til_need' (f := f) (q := q) hb hq.2 hr
  refine (farm_walk x g cap f.pk.length q ck f.rate f.burst f.cr (Pace.til f.cr f.rate (Pace.bytes (f.pk.take (f.size q)) * Pace.parts)) f.adm (min q f.burst) (f.pk.take f.adm) w (fun w1 => Ch w w1 (fun a o => a = x ∧ (o = 3 ∨ o = 4)) ∧ FA w1 x f f.cr ck bt v) hlt hadm hfew (fun p hp => (hF.lens p (List.mem_of_mem_take hp)).2) hgx hq.2 hb (by omega) hck hti (fl_accrue h hC hF hck hvx) ?_ ?_).mono ?_
  · rintro w1 ⟨hc1, h1⟩
    refine ⟨h1.c1, h1.c2, h1.c3, by rw [← hv]; exact h1.c5, h1.c6, ⟨_, h1.c7⟩, h1.fz, fun k p hk => ?_⟩
    have hr1 := h1.row
    rw [hv] at hr1
    have hk' : f.pk[k]? = some p := by
      rw [List.getElem?_take] at hk
      split at hk
      · exact hk
      · cases hk
    exact row_get hr1 (pkC_get f.pk k p hk').2
  · intro W
    have hs : (f.pk.take f.adm).take (Pace.fit (f.pk.take f.adm) (min q f.burst)) = f.pk.take (f.size q) := by
      rw [List.take_take, Nat.min_eq_left]
      · rfl
      · have := Pace.Fl.size_le q f; exact this
    rw [hs]
    have hby := Pace.Fl.size_room q f
    have hU := until_any (f.cr : Int) (f.rate : Int) ((Pace.bytes (f.pk.take (f.size q)) * 1000000000 : Nat) : Int) (by have := hF.cr; rw [hp] at this; omega) (by have := hF.rate; omega) (by omega) W
    obtain ⟨u1, u2⟩ := unt_nat f.cr f.rate (Pace.bytes (f.pk.take (f.size q)) * 1000000000) hr
    rw [u1, u2] at hU
    rw [hp, show ((Pace.bytes (f.pk.take (f.size q)) : Int) * 1000000000) = ((Pace.bytes (f.pk.take (f.size q)) * 1000000000 : Nat) : Int) by omega]
    exact hU
  · rintro e w' ⟨rfl, w1, ⟨hc1, h1⟩, h2, h3⟩
    have hc : Ch w w' (fun a o => a = x ∧ (o = 3 ∨ o = 4 ∨ o = 7)) := (hc1.trans h2).mono fun a o q => by
      rcases q with ⟨q1, q2⟩ | ⟨q1, q2⟩
      · exact ⟨q1, by omega⟩
      · exact ⟨q1, by omega⟩
    obtain ⟨a1, a2⟩ := h1.ch hvx h2 (fun a o q => q.1)
    have hcc : ∀ o, o ≠ 7 → w'.cell? ⟨x, o, none⟩ = w1.cell? ⟨x, o, none⟩ := fun o o1 => h2.cell x o (by omega)
    exact ⟨rfl, hc, ⟨by rw [hcc 0 (by omega)]; exact h1.c0, by rw [hcc 1 (by omega)]; exact h1.c1, by rw [hcc 2 (by omega)]; exact h1.c2, by rw [hcc 3 (by omega)]; exact h1.c3, by rw [hcc 4 (by omega)]; exact h1.c4, by rw [hcc 5 (by omega)]; exact h1.c5, by rw [hcc 6 (by omega)]; exact h1.c6, h3, a1, a2⟩⟩
end Go.Proofs.YtogdekjklbbbiaaGreatDoor

namespace Go.Proofs.YtogdekjklbbbiaaGreatDoor
open Go.ChangeShapes Go.WideShapes Go.ChangeAt Go.RowKit
set_option linter.unusedSimpArgs false
set_option linter.unusedVariables false

theorem Ch.fr2 {w w' : World} {S : Nat → Nat → Prop} {O : Nat → Prop} (h : Ch w w' S) (hS : ∀ a o, S a o → O a) : Fr w w' O := ⟨h.os, h.tape, h.output, by rw [h.size]; exact Nat.le_refl _, fun k _ hn => h.blk k fun o q => hn (hS k o q)⟩
theorem PM.vx {w : World} {b : Nat} {y : Lay} {s : Pace.St} {nw : Nat} {P : List Pace.Cmd} {c : Cn} (h : PM w b y s nw P c) {f : Pace.Fl} (hf : f ∈ s.fl) {x : Nat} (hx : y.tag x ≠ .pk f.num) : (y.V f.num).ownBlock ≠ some x := fun e => hx (h.tk f hf x e)
theorem can_off (A : List Pace.Ar) (n : Nat) : canA (A.map fun a => (a.num, a.at')) (n : Int) = (Pace.off A n).map fun a => (a.num, a.at') := by
  unfold canA Pace.off
  rw [List.filter_map]
  congr 1
  apply List.filter_congr
  intro a _
  simp only [Function.comp, decide_eq_decide]
  constructor
  · intro q e; exact q (by rw [e])
  · intro q e; exact q (by omega)
theorem ins_ok {A : List (Nat × Nat)} {n t : Nat} (h : ∀ p ∈ A, p.1 ≠ n) : insA A (n : Int) (t : Int) = A ++ [(n, t)] := by
  unfold insA
  rw [if_neg (by omega), if_neg]
  · simp
  · rintro ⟨p, hp, e⟩
    exact h p hp (by omega)

/-- The pacer arms a flow. -/
theorem pm_arm {w : World} {b : Nat} {y : Lay} {s : Pace.St} {nw : Nat} {P : List Pace.Cmd} {c : Cn} (h : PM w b y s nw P c) (hnd : (s.fl.map (·.num)).Nodup) {n : Nat} {f : Pace.Fl} (hn : Pace.look s.fl n = some f) (hF : Pace.FOk s.q f) (hq : 1500 ≤ s.q ∧ s.q ≤ 1000000) (hck : s.clock ≤ 4000000000000000000) (hnb : n < 9223372036854775808) (hAl : s.A.length < 1000) :
    Calls Tryz.prog 64 #[.pointer (some ⟨b, 0, none⟩), .pointer (some ⟨y.B n, 0, none⟩)] w fun e w' => e = .returned (.tuple #[]) ∧ ∃ y', PM w' b y' (Pace.arm s n) nw P c ∧ Step w w' y y' ∧ y'.B = y.B ∧ y'.pv = y.pv ∧ y'.wb = y.wb ∧ y'.wn = y.wn := by
  obtain ⟨hfm, hfn⟩ := Pace.look_some hn
  have hfl := h.fl f hfm
  rw [hfn] at hfl
  have hS : ∀ (W : World) (y' : Lay) (s' : Pace.St), PM W b y' s' nw P c → s'.q = s.q → s'.clock = s.clock → s'.fl = s.fl → y'.B = y.B → y'.wb = y.wb → W.cell? ⟨b, 5, none⟩ = some (.pointer (some ⟨y.wb, 0, none⟩)) ∧ W.cell? ⟨y.B n, 0, none⟩ = some (.int .i64 (n : Int)) ∧ W.cell? ⟨b, 0, none⟩ = some (.int .i64 (s.q : Int)) ∧ W.cell? ⟨b, 1, none⟩ = some (.int .i64 (s.clock : Int)) := by
    intro W y' s' hP e1 e2 e3 e4 e5
    have hf' := hP.fl f (by rw [e3]; exact hfm)
    rw [hfn, e4] at hf'
    refine ⟨by rw [← e5]; exact hP.pb.c5, ?_, by rw [← e1]; exact hP.pb.c0, by rw [← e2]; exact hP.pb.c1⟩
    have := hf'.c0
    rw [hfn] at this
    exact this
  refine (parm_walk b (y.B n) y.wb (n : Int) (s.q : Int) (s.clock : Int) ((f.instant s.q s.clock : Nat) : Int) (f.adm : Int) (f.rate : Int) w
    (fun w1 => ∃ y1, PM w1 b y1 { s with A := Pace.off s.A n } nw P c ∧ Step w w1 y y1 ∧ y1.B = y.B ∧ y1.wb = y.wb ∧ y1.pv = y.pv ∧ y1.wn = y.wn)
    (fun w2 => ∃ y2, PM w2 b y2 { s with A := Pace.off s.A n } nw P c ∧ Step w w2 y y2 ∧ y2.B = y.B ∧ y2.wb = y.wb ∧ y2.bt n = f.size s.q ∧ y2.pv = y.pv ∧ y2.wn = y.wn)
    (fun w3 => ∃ y3, PM w3 b y3 (Pace.arm s n) nw P c ∧ Step w w3 y y3 ∧ y3.B = y.B ∧ y3.wb = y.wb ∧ y3.pv = y.pv ∧ y3.wn = y.wn) ?_ ?_ ?_ ?_ ?_ ?_ ?_).mono ?_
  · exact hS w y s h rfl rfl rfl rfl rfl
  · rintro W (⟨y1, h1, _, h2, h3, _⟩ | ⟨y1, h1, _, h2, h3, _⟩ | ⟨y1, h1, _, h2, h3, _⟩)
    · exact hS W y1 _ h1 rfl rfl rfl h2 h3
    · exact hS W y1 _ h1 rfl rfl rfl h2 h3
    · exact hS W y1 _ h1 (Pace.arm_q _ _) (Pace.arm_clock _ _) (Pace.arm_fl _ _) h2 h3
  · intro m
    have hd := h.drewN m
    refine (wa_cancel hd.wa (n : Int) (by omega) (by omega)).mono ?_
    rintro e w1 ⟨rfl, hfr, hwa⟩
    rw [can_off] at hwa
    obtain ⟨y1, hP, hSt, e1, e2, e3, e4, e5⟩ := hd.wheel hfr hwa (fun k q => .inl q) hd.wn (fun a ha => hd.ak a (Pace.mem_off.1 ha).1)
    exact ⟨_, rfl, y1, hP, ⟨⟨hSt.fr.os, hSt.fr.tape, hSt.fr.output, hSt.fr.size, hSt.fr.blk⟩, hSt.ext⟩, e1, e3, e5, e4⟩
  · rintro w1 ⟨y1, h1, _, e1, _⟩
    have hf' := h1.fl f hfm
    rw [hfn, e1] at hf'
    exact ⟨hf'.c6, hf'.c1⟩
  · rintro hno w1 ⟨y1, h1, hs1, e1, e2, e3, e4⟩
    refine ⟨y1, ?_, hs1, e1, e2, e3, e4⟩
    have : Pace.arm s n = { s with A := Pace.off s.A n } := by
      unfold Pace.arm
      rw [hn]
      simp only
      rw [if_neg (by omega)]
    rw [this]; exact h1
  · rintro ⟨ha, hr⟩ w1 ⟨y1, h1, hs1, e1, e2, e3, e4⟩ m
    have hd := h1.drewN m
    have hf1 := hd.fl f hfm
    have hc1 := hd.fc f hfm
    rw [hfn, e1] at hf1
    rw [hfn] at hc1
    have hBt := hd.tl f hfm
    rw [hfn, e1] at hBt
    have hvx : (y1.V n).ownBlock ≠ some (y.B n) := by
      have := hd.vx hfm (x := y.B n) (by rw [hBt]; simp)
      rw [hfn] at this; exact this
    refine (fl_arm hf1 hc1 hF hq hck hvx (by omega) (by omega)).mono ?_
    rintro e w2 ⟨rfl, hch, hFA⟩
    have hnn : Pace.look ({ s with A := Pace.off s.A n } : Pace.St).fl n = some f := hn
    obtain ⟨y2, hP2, hS2, b1, b2, b3, b4, b5⟩ := hd.flow (f' := f) hnn hfn (hch.fr2 fun a o q => .inl (by rw [q.1]; exact hBt)) (by rw [e1]; exact hFA) ⟨Nat.le_refl _, hF.cr, by rw [Nat.sub_self, Pace.acc_zero hF.cr]⟩ (fun g hg => .inl hg) (fun a ha' q => absurd q (Pace.mem_off.1 ha').2)
    have hup : Pace.upd ({ s with A := Pace.off s.A n } : Pace.St).fl n (fun _ => f) = s.fl := upd_look hnd hn
    rw [hup] at hP2
    refine ⟨rfl, y2, hP2, hs1.trans ⟨⟨hS2.fr.os, hS2.fr.tape, hS2.fr.output, hS2.fr.size, hS2.fr.blk⟩, hS2.ext⟩, b1.trans e1, b3.trans e2, b2, b5.trans e3, b4.trans e4⟩
  · rintro ⟨ha, hr⟩ w2 ⟨y2, h2, hs2, e1, e2, e3, e4, e5⟩
    have hlen : ((Pace.off s.A n).map fun a => (a.num, a.at')).length < maxLen := by
      have := List.length_filter_le (fun a : Pace.Ar => decide (a.num ≠ n)) s.A
      rw [List.length_map]
      unfold Pace.off maxLen
      omega
    have hin : f.instant s.q s.clock ≤ s.clock + 1000000000000000 := hF.instant_le (by omega)
    have hwa := h2.wa
    rw [e2] at hwa
    refine (wa_insert hwa (n : Int) ((f.instant s.q s.clock : Nat) : Int) (by omega) (by omega) hlen).mono ?_
    rintro e w3 ⟨rfl, hfr, O', hw3, hO'⟩
    have hno : ∀ p ∈ (Pace.off s.A n).map (fun a => (a.num, a.at')), p.1 ≠ n := by
      intro p hp
      obtain ⟨a, ha', rfl⟩ := List.mem_map.1 hp
      exact (Pace.mem_off.1 ha').2
    rw [ins_ok hno] at hw3
    have hmap : (Pace.off s.A n).map (fun a => (a.num, a.at')) ++ [(n, f.instant s.q s.clock)] = (Pace.off s.A n ++ [(⟨n, f.instant s.q s.clock, f.size s.q⟩ : Pace.Ar)]).map fun a => (a.num, a.at') := by simp
    rw [hmap, ← e2] at hw3
    obtain ⟨y3, hP3, hS3, b1, b2, b3, b4, b5⟩ := h2.wheel hfr hw3 hO' h2.wn (fun a ha' => by
      rcases List.mem_append.1 ha' with q | q
      · exact h2.ak a q
      · rw [List.mem_singleton.1 q]; exact e3)
    refine ⟨_, rfl, y3, ?_, hs2.trans hS3, b1.trans e1, b3.trans e2, b5.trans e4, b4.trans e5⟩
    have : Pace.arm s n = { s with A := Pace.off s.A n ++ [(⟨n, f.instant s.q s.clock, f.size s.q⟩ : Pace.Ar)] } := by
      unfold Pace.arm
      rw [hn]
      simp only
      rw [if_pos ⟨by omega, by omega⟩]
    rw [this]
    exact hP3
  · rintro e w' ⟨rfl, y3, h1, h2, h3, h4, h5, h6⟩
    exact ⟨rfl, y3, h1, h2, h3, h5, h4, h6⟩
end Go.Proofs.YtogdekjklbbbiaaGreatDoor
