import Derived.Test.YtogdekjklbbbiaaGreatDoorZ26
import Derived.Test.YtogdekjklbbbiaaGreatDoorSpec
import Derived.Test.YtogdekjklbbbiaaGreatDoorZ21
import Derived.Test.YtogdekjklbbbiaaGreatDoorZ13
import Derived.Test.YtogdekjklbbbiaaGreatDoorDf
import Derived.Test.YtogdekjklbbbiaaGreatDoorFa
import Derived.Test.YtogdekjklbbbiaaGreatDoorZ02
namespace Go.Proofs.YtogdekjklbbbiaaGreatDoor
open Go.ChangeShapes Go.WideShapes Go.ChangeAt Go.RowKit
set_option linter.unusedSimpArgs false
set_option linter.unusedVariables false

/-- Whose a block is. -/
inductive Tag where
  | none | self | wheel | rowF | rowP
  | flow (n : Nat)
  | pk (n : Nat)
deriving DecidableEq

/-- Packets, and commands, as cells. -/
def pkC (l : List (Int × Nat)) : List Value := l.flatMap fun p => [.int .i64 p.1, .int .i64 (p.2 : Int)]
def cmdC (B : Nat → Nat) : Pace.Cmd → List Value
  | .add f r b => [.int .i64 0, .pointer (some ⟨B f, 0, none⟩), .int .i64 (r : Int), .int .i64 (b : Int), .int .i64 0]
  | .set f r b l => [.int .i64 1, .pointer (some ⟨B f, 0, none⟩), .int .i64 (r : Int), .int .i64 (b : Int), .int .i64 (l : Int)]
  | .enq f => [.int .i64 2, .pointer (some ⟨B f, 0, none⟩), .int .i64 0, .int .i64 0, .int .i64 0]
def cmdsC (B : Nat → Nat) (P : List Pace.Cmd) : List Value := P.flatMap (cmdC B)
theorem pkC_length (l : List (Int × Nat)) : (pkC l).length = l.length * 2 := by
  induction l with
  | nil => rfl
  | cons p l ih => simp only [pkC, List.flatMap_cons, List.length_append, List.length_cons, List.length_nil] at ih ⊢; omega
theorem cmdC_length (B : Nat → Nat) (c : Pace.Cmd) : (cmdC B c).length = 5 := by cases c <;> rfl
theorem cmdsC_length (B : Nat → Nat) (P : List Pace.Cmd) : (cmdsC B P).length = P.length * 5 := by
  induction P with
  | nil => rfl
  | cons p l ih => simp only [cmdsC, List.flatMap_cons, List.length_append, List.length_cons, cmdC_length] at ih ⊢; omega

/-- A flow in memory. -/
structure FA (w : World) (x : Nat) (f : Pace.Fl) (cr rk bt : Nat) (v : Value) : Prop where
  c0 : w.cell? ⟨x, 0, none⟩ = some (.int .i64 (f.num : Int))
  c1 : w.cell? ⟨x, 1, none⟩ = some (.int .i64 (f.rate : Int))
  c2 : w.cell? ⟨x, 2, none⟩ = some (.int .i64 (f.burst : Int))
  c3 : w.cell? ⟨x, 3, none⟩ = some (.int .i64 (cr : Int))
  c4 : w.cell? ⟨x, 4, none⟩ = some (.int .i64 (rk : Int))
  c5 : w.cell? ⟨x, 5, none⟩ = some v
  c6 : w.cell? ⟨x, 6, none⟩ = some (.int .i64 (f.adm : Int))
  c7 : w.cell? ⟨x, 7, none⟩ = some (.int .i64 (bt : Int))
  row : w.ownsRow 0 87 2 v f.pk.length (pkC f.pk)
  fz : ∀ o, w.frozen? ⟨x, o, none⟩ = false

structure Cn where
  taken : Nat
  refused : Nat
  sent : Nat
  dropped : Nat
  read : Nat
  bad : Nat

/-- Where it all lies. -/
structure Lay where
  tag : Nat → Tag
  B : Nat → Nat
  V : Nat → Value
  cr : Nat → Nat
  rk : Nat → Nat
  bt : Nat → Nat
  fv : Value
  pv : Value
  wb : Nat
  wn : Nat
  wo : Nat → Prop

def Lay.own (y : Lay) (k : Nat) : Prop := y.tag k ≠ .none

/-- The pacer's own block. -/
structure PB (w : World) (b : Nat) (q ck nw : Nat) (fv pv : Value) (wb : Nat) (c : Cn) : Prop where
  c0 : w.cell? ⟨b, 0, none⟩ = some (.int .i64 (q : Int))
  c1 : w.cell? ⟨b, 1, none⟩ = some (.int .i64 (ck : Int))
  c2 : w.cell? ⟨b, 2, none⟩ = some (.int .i64 (nw : Int))
  c3 : w.cell? ⟨b, 3, none⟩ = some fv
  c4 : w.cell? ⟨b, 4, none⟩ = some pv
  c5 : w.cell? ⟨b, 5, none⟩ = some (.pointer (some ⟨wb, 0, none⟩))
  c6 : w.cell? ⟨b, 6, none⟩ = some (.int .i64 (c.taken : Int))
  c7 : w.cell? ⟨b, 7, none⟩ = some (.int .i64 (c.refused : Int))
  c8 : w.cell? ⟨b, 8, none⟩ = some (.int .i64 (c.sent : Int))
  c9 : w.cell? ⟨b, 9, none⟩ = some (.int .i64 (c.dropped : Int))
  c10 : w.cell? ⟨b, 10, none⟩ = some (.int .i64 (c.read : Int))
  c11 : w.cell? ⟨b, 11, none⟩ = some (.int .i64 (c.bad : Int))
  c12 : w.cell? ⟨b, 12, none⟩ = some (.int .u32 0)
  c13 : w.cell? ⟨b, 13, none⟩ = some (.int .i32 0)
  c14 : w.cell? ⟨b, 14, none⟩ = some (.int .u32 0)
  c15 : w.cell? ⟨b, 15, none⟩ = some (.bool false)

/-- What a flow's place says of its credit. -/
structure FC (ck : Nat) (f : Pace.Fl) (cr rk : Nat) : Prop where
  rle : rk ≤ ck
  cle : cr ≤ f.burst * Pace.parts
  eq : f.cr = Pace.acc cr f.rate (f.burst * Pace.parts) (ck - rk)

structure PM (w : World) (b : Nat) (y : Lay) (s : Pace.St) (nw : Nat) (P : List Pace.Cmd) (c : Cn) : Prop where
  tb : y.tag b = .self
  t0 : y.tag 0 = .none
  lt : ∀ k, y.own k → k < w.heap.size
  fz : ∀ o, w.frozen? ⟨b, o, none⟩ = false
  pb : PB w b s.q s.clock nw y.fv y.pv y.wb c
  rf : w.ownsRow 0 159 1 y.fv s.fl.length (s.fl.map fun f => Value.pointer (some ⟨y.B f.num, 0, none⟩))
  tf : ∀ g, y.fv.ownBlock = some g → y.tag g = .rowF
  rp : w.ownsRow 0 161 5 y.pv P.length (cmdsC y.B P)
  tp : ∀ g, y.pv.ownBlock = some g → y.tag g = .rowP
  wa : WA w y.wb y.wo y.wn (s.A.map fun a => (a.num, a.at'))
  two : ∀ k, y.wo k → y.tag k = .wheel
  wn : y.wn ≤ s.clock
  fl : ∀ f ∈ s.fl, FA w (y.B f.num) f (y.cr f.num) (y.rk f.num) (y.bt f.num) (y.V f.num)
  fc : ∀ f ∈ s.fl, FC s.clock f (y.cr f.num) (y.rk f.num)
  tl : ∀ f ∈ s.fl, y.tag (y.B f.num) = .flow f.num
  tk : ∀ f ∈ s.fl, ∀ g, (y.V f.num).ownBlock = some g → y.tag g = .pk f.num
  ak : ∀ a ∈ s.A, y.bt a.num = a.k

theorem row_kept {w w' : World} {n0 e sz n : Nat} {v : Value} {xs : List Value} (h : w.ownsRow n0 e sz v n xs) (hk : ∀ g, v.ownBlock = some g → w'.heap[g]? = w.heap[g]?) : w'.ownsRow n0 e sz v n xs := by
  refine ⟨h.1, ?_⟩
  rcases h.2 with q | ⟨g, cap, cur, h1, h2, h3, h4⟩
  · exact .inl q
  · exact .inr ⟨g, cap, cur, h1, h2, by rw [hk g (by rw [h1]; rfl)]; exact h3, h4⟩
theorem FA.kept {w w' : World} {x : Nat} {f : Pace.Fl} {cr rk bt : Nat} {v : Value} (h : FA w x f cr rk bt v) (hx : w'.heap[x]? = w.heap[x]?) (hv : ∀ g, v.ownBlock = some g → w'.heap[g]? = w.heap[g]?) : FA w' x f cr rk bt v := by
  have hc : ∀ o, w'.cell? ⟨x, o, none⟩ = w.cell? ⟨x, o, none⟩ := fun o => World.cell?_of_block (w := w) (a := ⟨x, o, none⟩) hx
  exact ⟨by rw [hc]; exact h.c0, by rw [hc]; exact h.c1, by rw [hc]; exact h.c2, by rw [hc]; exact h.c3, by rw [hc]; exact h.c4, by rw [hc]; exact h.c5, by rw [hc]; exact h.c6, by rw [hc]; exact h.c7, row_kept h.row hv, fun o => (frozen_of hx o).trans (h.fz o)⟩
theorem PB.kept {w w' : World} {b q ck nw : Nat} {fv pv : Value} {wb : Nat} {c : Cn} (h : PB w b q ck nw fv pv wb c) (hx : w'.heap[b]? = w.heap[b]?) : PB w' b q ck nw fv pv wb c := by
  have hc : ∀ o, w'.cell? ⟨b, o, none⟩ = w.cell? ⟨b, o, none⟩ := fun o => World.cell?_of_block (w := w) (a := ⟨b, o, none⟩) hx
  exact ⟨by rw [hc]; exact h.c0, by rw [hc]; exact h.c1, by rw [hc]; exact h.c2, by rw [hc]; exact h.c3, by rw [hc]; exact h.c4, by rw [hc]; exact h.c5, by rw [hc]; exact h.c6, by rw [hc]; exact h.c7, by rw [hc]; exact h.c8, by rw [hc]; exact h.c9, by rw [hc]; exact h.c10, by rw [hc]; exact h.c11, by rw [hc]; exact h.c12, by rw [hc]; exact h.c13, by rw [hc]; exact h.c14, by rw [hc]; exact h.c15⟩

/-- One call's step: what is not its own, and was there, is as it was, and stays not its own. -/
structure Step (w w' : World) (y y' : Lay) : Prop where
  fr : Fr w w' y.own
  ext : ∀ k, k < w.heap.size → y.tag k = .none → y'.tag k = .none
theorem Step.refl (w : World) (y : Lay) : Step w w y y := ⟨Fr.refl _ _, fun _ _ h => h⟩
theorem Step.trans {a b c : World} {x y z : Lay} (h : Step a b x y) (k : Step b c y z) : Step a c x z :=
  ⟨h.fr.trans k.fr fun n hn q e => q (h.ext n hn e), fun n hn e => k.ext n (Nat.lt_of_lt_of_le hn h.fr.size) (h.ext n hn e)⟩


/-- A pacer hangs on its own blocks alone. -/
theorem PM.kept {w w' : World} {b : Nat} {y : Lay} {s : Pace.St} {nw : Nat} {P : List Pace.Cmd} {c : Cn} (h : PM w b y s nw P c) {O : Nat → Prop} (hf : Fr w w' O) (hd : ∀ k, y.own k → ¬ O k) : PM w' b y s nw P c := by
  have hk : ∀ k, y.own k → w'.heap[k]? = w.heap[k]? := fun k hO => hf.blk k (h.lt k hO) (hd k hO)
  have ho : ∀ k t, y.tag k = t → t ≠ .none → y.own k := fun k t e hn q => hn (e.symm.trans q)
  refine ⟨h.tb, h.t0, fun k hO => Nat.lt_of_lt_of_le (h.lt k hO) hf.size, fun o => (frozen_of (hk b (ho _ _ h.tb (by simp))) o).trans (h.fz o), h.pb.kept (hk b (ho _ _ h.tb (by simp))),
    row_kept h.rf fun g hg => hk g (ho _ _ (h.tf g hg) (by simp)), h.tf, row_kept h.rp fun g hg => hk g (ho _ _ (h.tp g hg) (by simp)), h.tp, ?_, h.two, h.wn, ?_, h.fc, h.tl, h.tk, h.ak⟩
  · exact h.wa.kept hf fun k hO => hd k (ho _ _ (h.two k hO) (by simp))
  · exact fun f hfl => (h.fl f hfl).kept (hk _ (ho _ _ (h.tl f hfl) (by simp))) fun g hg => hk g (ho _ _ (h.tk f hfl g hg) (by simp))
theorem PM.drew {w : World} {b : Nat} {y : Lay} {s : Pace.St} {nw : Nat} {P : List Pace.Cmd} {c : Cn} (h : PM w b y s nw P c) : PM w.drew b y s nw P c := h.kept (O := fun _ => False) (Fr.refl _ _).drew fun _ _ q => q
theorem PM.drewN {w : World} {b : Nat} {y : Lay} {s : Pace.St} {nw : Nat} {P : List Pace.Cmd} {c : Cn} (h : PM w b y s nw P c) (n : Nat) : PM (w.drewN n) b y s nw P c := h.kept (O := fun _ => False) ((Fr.refl _ _).drewN n) fun _ _ q => q
theorem PM.ow {w : World} {b : Nat} {y : Lay} {s : Pace.St} {nw : Nat} {P : List Pace.Cmd} {c : Cn} (h : PM w b y s nw P c) : y.own b := by rw [Lay.own, h.tb]; simp

theorem PM.own_of {w : World} {b : Nat} {y : Lay} {s : Pace.St} {nw : Nat} {P : List Pace.Cmd} {c : Cn} (h : PM w b y s nw P c) {k : Nat} {t : Tag} (e : y.tag k = t) (hn : t ≠ .none) : y.own k := fun q => hn (e.symm.trans q)

/-- The wheel has turned. -/
theorem PM.wheel {w w' : World} {b : Nat} {y : Lay} {s : Pace.St} {nw : Nat} {P : List Pace.Cmd} {c : Cn} (h : PM w b y s nw P c) {O' : Nat → Prop} {wn' : Nat} {A' : List Pace.Ar} (hf : Fr w w' y.wo) (hw : WA w' y.wb O' wn' (A'.map fun a => (a.num, a.at'))) (hO : ∀ k, O' k → y.wo k ∨ w.heap.size ≤ k) (hwn : wn' ≤ s.clock) (hak : ∀ a ∈ A', y.bt a.num = a.k) :
    ∃ y', PM w' b y' { s with A := A' } nw P c ∧ Step w w' y y' ∧ y'.B = y.B ∧ y'.bt = y.bt ∧ y'.wb = y.wb ∧ y'.wn = wn' ∧ y'.pv = y.pv := by
  have hk : ∀ k, y.own k → y.tag k ≠ .wheel → w'.heap[k]? = w.heap[k]? := fun k hO hw => hf.blk k (h.lt k hO) fun q => hw (h.two k q)
  have hkt : ∀ k t, y.tag k = t → t ≠ .none → t ≠ .wheel → w'.heap[k]? = w.heap[k]? := fun k t e h1 h2 => hk k (h.own_of e h1) (by rw [e]; exact h2)
  refine ⟨{ y with tag := fun k => if k < w.heap.size then y.tag k else if k < w'.heap.size then .wheel else .none, wn := wn', wo := O' }, ⟨?_, ?_, ?_, ?_, ?_, ?_, ?_, ?_, ?_, hw, ?_, hwn, ?_, h.fc, ?_, ?_, hak⟩, ⟨?_, ?_⟩, rfl, rfl, rfl, rfl, rfl⟩
  · show (if b < w.heap.size then _ else _) = _
    rw [if_pos (h.lt b h.ow)]; exact h.tb
  · show (if 0 < w.heap.size then _ else _) = _
    rw [if_pos (Nat.lt_of_le_of_lt (Nat.zero_le _) (h.lt b h.ow))]; exact h.t0
  · intro k hO
    have hO' : (if k < w.heap.size then y.tag k else if k < w'.heap.size then Tag.wheel else .none) ≠ .none := hO
    by_cases q : k < w.heap.size
    · exact Nat.lt_of_lt_of_le q hf.size
    · rw [if_neg q] at hO'
      by_cases q' : k < w'.heap.size
      · exact q'
      · rw [if_neg q'] at hO'; exact absurd rfl hO'
  · exact fun o => (frozen_of (hkt b _ h.tb (by simp) (by simp)) o).trans (h.fz o)
  · exact h.pb.kept (hkt b _ h.tb (by simp) (by simp))
  · exact row_kept h.rf fun g hg => hkt g _ (h.tf g hg) (by simp) (by simp)
  · intro g hg
    show (if g < w.heap.size then _ else _) = _
    rw [if_pos (h.lt g (h.own_of (h.tf g hg) (by simp)))]; exact h.tf g hg
  · exact row_kept h.rp fun g hg => hkt g _ (h.tp g hg) (by simp) (by simp)
  · intro g hg
    show (if g < w.heap.size then _ else _) = _
    rw [if_pos (h.lt g (h.own_of (h.tp g hg) (by simp)))]; exact h.tp g hg
  · intro k hk'
    show (if k < w.heap.size then _ else _) = _
    rcases hO k hk' with q | q
    · rw [if_pos (h.lt k (h.own_of (h.two k q) (by simp)))]; exact h.two k q
    · rw [if_neg (by omega), if_pos (hw.olt hk')]
  · exact fun f hfl => (h.fl f hfl).kept (hkt _ _ (h.tl f hfl) (by simp) (by simp)) fun g hg => hkt g _ (h.tk f hfl g hg) (by simp) (by simp)
  · intro f hfl
    show (if y.B f.num < w.heap.size then _ else _) = _
    rw [if_pos (h.lt _ (h.own_of (h.tl f hfl) (by simp)))]; exact h.tl f hfl
  · intro f hfl g hg
    show (if g < w.heap.size then _ else _) = _
    rw [if_pos (h.lt _ (h.own_of (h.tk f hfl g hg) (by simp)))]; exact h.tk f hfl g hg
  · exact ⟨hf.os, hf.tape, hf.output, hf.size, fun k hk' hn => hf.blk k hk' fun q => hn (h.own_of (h.two k q) (by simp))⟩
  · intro k hk' e
    show (if k < w.heap.size then _ else _) = _
    rw [if_pos hk']; exact e

/-- One flow has turned. -/
theorem PM.flowG {w w' : World} {b : Nat} {y : Lay} {s : Pace.St} {nw : Nat} {P : List Pace.Cmd} {c : Cn} (h : PM w b y s nw P c) {n : Nat} {f f' : Pace.Fl} (hn : Pace.look s.fl n = some f) (hf' : f'.num = n) {cr rk bt : Nat} {v : Value}
    {O : Nat → Prop} (hfr : Fr w w' O) (hOt : ∀ k, O k → y.tag k = .flow n ∨ y.tag k = .pk n ∨ y.tag k = .none) (hFA : FA w' (y.B n) f' cr rk bt v) (hFC : FC s.clock f' cr rk)
    (hv : ∀ g, v.ownBlock = some g → ((y.V n).ownBlock = some g ∨ w.heap.size ≤ g)) (hbt : ∀ a ∈ s.A, a.num = n → bt = a.k) :
    ∃ y', PM w' b y' { s with fl := Pace.upd s.fl n (fun _ => f') } nw P c ∧ (∀ k, k < w.heap.size → y.tag k = .none → y'.tag k = .none) ∧ y'.B = y.B ∧ y'.bt n = bt ∧ y'.wb = y.wb ∧ y'.wn = y.wn ∧ y'.pv = y.pv ∧ ∀ k, v.ownBlock ≠ some k → y'.tag k = y.tag k := by
  obtain ⟨hfm, hfn⟩ := Pace.look_some hn
  have hk : ∀ k t, y.tag k = t → t ≠ .none → t ≠ .flow n → t ≠ .pk n → w'.heap[k]? = w.heap[k]? := fun k t e h1 h2 h3 => hfr.blk k (h.lt k (h.own_of e h1)) fun q => by
    rcases hOt k q with q | q | q
    · exact h2 (e.symm.trans q)
    · exact h3 (e.symm.trans q)
    · exact h1 (e.symm.trans q)
  have hvl : ∀ g, v.ownBlock = some g → g < w'.heap.size := fun g hg => (hFA.row.lt g hg).2
  have hvt : ∀ k, k < w.heap.size → y.tag k ≠ .pk n → v.ownBlock ≠ some k := fun k hkl hkt e => by
    rcases hv k e with q | q
    · have := h.tk f hfm k (by rw [hfn]; exact q)
      rw [hfn] at this
      exact hkt this
    · omega
  have hvo : ∀ k t, y.tag k = t → t ≠ .none → t ≠ .pk n → v.ownBlock ≠ some k := fun k t e h1 h2 => hvt k (h.lt k (h.own_of e h1)) (by rw [e]; exact h2)
  have hmem : ∀ x ∈ Pace.upd s.fl n (fun _ => f'), (x = f') ∨ (x ∈ s.fl ∧ x.num ≠ n) := fun x hx => by
    obtain ⟨z, hz, ⟨q1, q2⟩ | ⟨q1, q2⟩⟩ := Pace.mem_upd hx
    · exact .inl q2
    · rw [q2]; exact .inr ⟨hz, q1⟩
  have htl : ∀ x ∈ s.fl, x.num ≠ n → y.B x.num ≠ y.B n := fun x hx hxn e => by
    have h1 := h.tl x hx
    have h2 := h.tl f hfm
    rw [hfn] at h2
    rw [e, h2] at h1
    injection h1 with h1; exact hxn h1.symm
  refine ⟨{ y with tag := fun k => if v.ownBlock = some k then .pk n else y.tag k, V := upd y.V n v, cr := upd y.cr n cr, rk := upd y.rk n rk, bt := upd y.bt n bt }, ⟨?_, ?_, ?_, ?_, ?_, ?_, ?_, ?_, ?_, ?_, ?_, h.wn, ?_, ?_, ?_, ?_, ?_⟩, ?_, rfl, upd_same _ _ _, rfl, rfl, rfl, fun k hk' => if_neg hk'⟩
  · show (if _ then _ else _) = _
    rw [if_neg (hvo b _ h.tb (by simp) (by simp))]; exact h.tb
  · show (if _ then _ else _) = _
    rw [if_neg (hvt 0 (Nat.lt_of_le_of_lt (Nat.zero_le _) (h.lt b h.ow)) (by rw [h.t0]; simp))]; exact h.t0
  · intro k hO
    have hO' : (if v.ownBlock = some k then Tag.pk n else y.tag k) ≠ .none := hO
    by_cases q : v.ownBlock = some k
    · exact hvl k q
    · rw [if_neg q] at hO'
      exact Nat.lt_of_lt_of_le (h.lt k hO') hfr.size
  · exact fun o => (frozen_of (hk b _ h.tb (by simp) (by simp) (by simp)) o).trans (h.fz o)
  · exact h.pb.kept (hk b _ h.tb (by simp) (by simp) (by simp))
  · have e : (Pace.upd s.fl n (fun _ => f')).map (fun x => Value.pointer (some ⟨y.B x.num, 0, none⟩)) = s.fl.map fun x => Value.pointer (some ⟨y.B x.num, 0, none⟩) := by
      unfold Pace.upd
      rw [List.map_map]
      apply List.map_congr_left
      intro x hx
      show Value.pointer (some ⟨y.B (if x.num = n then f' else x).num, 0, none⟩) = _
      split
      · rename_i q; rw [hf', q]
      · rfl
    have e2 : (Pace.upd s.fl n (fun _ => f')).length = s.fl.length := by simp [Pace.upd]
    show w'.ownsRow 0 159 1 y.fv (Pace.upd s.fl n (fun _ => f')).length ((Pace.upd s.fl n (fun _ => f')).map _)
    rw [e, e2]
    exact row_kept h.rf fun g hg => hk g _ (h.tf g hg) (by simp) (by simp) (by simp)
  · intro g hg
    show (if _ then _ else _) = _
    rw [if_neg (hvo g _ (h.tf g hg) (by simp) (by simp))]; exact h.tf g hg
  · exact row_kept h.rp fun g hg => hk g _ (h.tp g hg) (by simp) (by simp) (by simp)
  · intro g hg
    show (if _ then _ else _) = _
    rw [if_neg (hvo g _ (h.tp g hg) (by simp) (by simp))]; exact h.tp g hg
  · exact h.wa.kept hfr fun k hO q => by
      have := h.two k hO
      rcases hOt k q with q | q | q <;> rw [this] at q <;> cases q
  · intro k hO
    show (if _ then _ else _) = _
    rw [if_neg (hvo k _ (h.two k hO) (by simp) (by simp))]; exact h.two k hO
  · intro x hx
    rcases hmem x hx with rfl | ⟨q1, q2⟩
    · rw [hf']
      simp only [upd_same]
      exact hFA
    · simp only [upd_other _ _ q2]
      refine (h.fl x q1).kept (hk _ _ (h.tl x q1) (by simp) (by simpa using q2) (by simp)) fun g hg => hk g _ (h.tk x q1 g hg) (by simp) (by simp) (by simpa using q2)
  · intro x hx
    rcases hmem x hx with rfl | ⟨q1, q2⟩
    · rw [hf']
      simp only [upd_same]
      exact hFC
    · simp only [upd_other _ _ q2]
      exact h.fc x q1
  · intro x hx
    have hBt : ∀ z ∈ s.fl, (if v.ownBlock = some (y.B z.num) then Tag.pk n else y.tag (y.B z.num)) = .flow z.num := fun z hz => by
      rw [if_neg (hvo _ _ (h.tl z hz) (by simp) (by simp))]; exact h.tl z hz
    rcases hmem x hx with rfl | ⟨q1, q2⟩
    · have := hBt f hfm
      rw [hfn] at this
      rw [hf']
      exact this
    · exact hBt x q1
  · intro x hx g hg
    show (if _ then _ else _) = _
    rcases hmem x hx with rfl | ⟨q1, q2⟩
    · rw [hf'] at hg ⊢
      simp only [upd_same] at hg
      rw [if_pos hg]
    · simp only [upd_other _ _ q2] at hg
      rw [if_neg (hvo g _ (h.tk x q1 g hg) (by simp) (by simpa using q2))]
      exact h.tk x q1 g hg
  · intro a ha
    show upd y.bt n bt a.num = a.k
    by_cases q : a.num = n
    · rw [q, upd_same]; exact hbt a ha q
    · rw [upd_other _ _ q]; exact h.ak a ha
  · intro k hk' e
    show (if _ then _ else _) = _
    rw [if_neg (hvt k hk' (by rw [e]; simp))]; exact e
theorem PM.flow {w w' : World} {b : Nat} {y : Lay} {s : Pace.St} {nw : Nat} {P : List Pace.Cmd} {c : Cn} (h : PM w b y s nw P c) {n : Nat} {f f' : Pace.Fl} (hn : Pace.look s.fl n = some f) (hf' : f'.num = n) {cr rk bt : Nat} {v : Value}
    (hfr : Fr w w' (fun k => y.tag k = .flow n ∨ y.tag k = .pk n)) (hFA : FA w' (y.B n) f' cr rk bt v) (hFC : FC s.clock f' cr rk)
    (hv : ∀ g, v.ownBlock = some g → ((y.V n).ownBlock = some g ∨ w.heap.size ≤ g)) (hbt : ∀ a ∈ s.A, a.num = n → bt = a.k) :
    ∃ y', PM w' b y' { s with fl := Pace.upd s.fl n (fun _ => f') } nw P c ∧ Step w w' y y' ∧ y'.B = y.B ∧ y'.bt n = bt ∧ y'.wb = y.wb ∧ y'.wn = y.wn ∧ y'.pv = y.pv := by
  obtain ⟨y', h1, h2, h3, h4, h5, h6, h7, _⟩ := h.flowG hn hf' hfr (fun k q => by rcases q with q | q; exact .inl q; exact .inr (.inl q)) hFA hFC hv hbt
  exact ⟨y', h1, ⟨⟨hfr.os, hfr.tape, hfr.output, hfr.size, fun k hk' hn' => hfr.blk k hk' fun q => hn' (by rcases q with q | q <;> exact h.own_of q (by simp))⟩, h2⟩, h3, h4, h5, h6, h7⟩
end Go.Proofs.YtogdekjklbbbiaaGreatDoor
