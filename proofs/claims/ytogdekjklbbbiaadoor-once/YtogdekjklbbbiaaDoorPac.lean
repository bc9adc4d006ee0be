import Derived.Test.YtogdekjklbbbiaaDoorAbs
import Derived.Test.YtogdekjklbbbiaaDoorSpec
import Derived.Test.YtogdekjklbbbiaaDoorFm
import Derived.Test.YtogdekjklbbbiaaDoorFh
import Derived.Test.YtogdekjklbbbiaaDoorDf
import Derived.Test.YtogdekjklbbbiaaDoorFa
import Derived.Test.YtogdekjklbbbiaaDoorSms
import Derived.Test.YtogdekjklbbbiaaDoorFi
import Derived.Test.YtogdekjklbbbiaaDoorFk
import Derived.Test.YtogdekjklbbbiaaDoorInts
set_option maxRecDepth 100000
namespace Go.Proofs.YtogdekjklbbbiaaDoor
open Go.ChangeShapes Go.WideShapes Go.ChangeAt Go.RowKit
set_option linter.unusedSimpArgs false
set_option linter.unusedVariables false

/-- Whose a block is. -/
inductive Tag where
  | none | self | wheel | rowF | rowP
  | flow (n : Nat)
  | pk (n : Nat)
deriving DecidableEq

/-- Packets, and commands, as cells. -/
def pkC (l : List (Int × Nat)) : List Value := l.flatMap fun p => [.int .i64 p.1, .int .i64 (p.2 : Int)]
def cmdC (B : Nat → Nat) : Pace.Cmd → List Value
  | .add f r b => [.int .i64 0, .pointer (some ⟨B f, 0, none⟩), .int .i64 (r : Int), .int .i64 (b : Int), .int .i64 0]
  | .set f r b l => [.int .i64 1, .pointer (some ⟨B f, 0, none⟩), .int .i64 (r : Int), .int .i64 (b : Int), .int .i64 (l : Int)]
  | .enq f => [.int .i64 2, .pointer (some ⟨B f, 0, none⟩), .int .i64 0, .int .i64 0, .int .i64 0]
def cmdsC (B : Nat → Nat) (P : List Pace.Cmd) : List Value := P.flatMap (cmdC B)
theorem pkC_length (l : List (Int × Nat)) : (pkC l).length = l.length * 2 := by
  induction l with
  | nil => rfl
  | cons p l ih => simp only [pkC, List.flatMap_cons, List.length_append, List.length_cons, List.length_nil] at ih ⊢; omega
theorem cmdC_length (B : Nat → Nat) (c : Pace.Cmd) : (cmdC B c).length = 5 := by cases c <;> rfl
theorem cmdsC_length (B : Nat → Nat) (P : List Pace.Cmd) : (cmdsC B P).length = P.length * 5 := by
  induction P with
  | nil => rfl
  | cons p l ih => simp only [cmdsC, List.flatMap_cons, List.length_append, List.length_cons, cmdC_length] at ih ⊢; omega

/-- A flow in memory. -/
structure FA (w : World) (x : Nat) (f : Pace.Fl) (cr rk bt : Nat) (v : Value) : Prop where
  c0 : w.cell? ⟨x, 0, none⟩ = some (.int .i64 (f.num : Int))
  c1 : w.cell? ⟨x, 1, none⟩ = some (.int .i64 (f.rate : Int))
  c2 : w.cell? ⟨x, 2, none⟩ = some (.int .i64 (f.burst : Int))
  c3 : w.cell? ⟨x, 3, none⟩ = some (.int .i64 (cr : Int))
  c4 : w.cell? ⟨x, 4, none⟩ = some (.int .i64 (rk : Int))
  c5 : w.cell? ⟨x, 5, none⟩ = some v
  c6 : w.cell? ⟨x, 6, none⟩ = some (.int .i64 (f.adm : Int))
  c7 : w.cell? ⟨x, 7, none⟩ = some (.int .i64 (bt : Int))
  row : w.ownsRow 0 102 2 v f.pk.length (pkC f.pk)
  fz : ∀ o, w.frozen? ⟨x, o, none⟩ = false

structure Cn where
  taken : Nat
  refused : Nat
  sent : Nat
  dropped : Nat
  read : Nat
  bad : Nat

/-- Where it all lies. -/
structure Lay where
  tag : Nat → Tag
  B : Nat → Nat
  V : Nat → Value
  cr : Nat → Nat
  rk : Nat → Nat
  bt : Nat → Nat
  fv : Value
  pv : Value
  wb : Nat
  wn : Nat
  wo : Nat → Prop

def Lay.own (y : Lay) (k : Nat) : Prop := y.tag k ≠ .none

/-- The pacer's own block. -/
structure PB (w : World) (b : Nat) (q ck nw : Nat) (fv pv : Value) (wb : Nat) (c : Cn) : Prop where
  c0 : w.cell? ⟨b, 0, none⟩ = some (.int .i64 (q : Int))
  c1 : w.cell? ⟨b, 1, none⟩ = some (.int .i64 (ck : Int))
  c2 : w.cell? ⟨b, 2, none⟩ = some (.int .i64 (nw : Int))
  c3 : w.cell? ⟨b, 3, none⟩ = some fv
  c4 : w.cell? ⟨b, 4, none⟩ = some pv
  c5 : w.cell? ⟨b, 5, none⟩ = some (.pointer (some ⟨wb, 0, none⟩))
  c6 : w.cell? ⟨b, 6, none⟩ = some (.int .i64 (c.taken : Int))
  c7 : w.cell? ⟨b, 7, none⟩ = some (.int .i64 (c.refused : Int))
  c8 : w.cell? ⟨b, 8, none⟩ = some (.int .i64 (c.sent : Int))
  c9 : w.cell? ⟨b, 9, none⟩ = some (.int .i64 (c.dropped : Int))
  c10 : w.cell? ⟨b, 10, none⟩ = some (.int .i64 (c.read : Int))
  c11 : w.cell? ⟨b, 11, none⟩ = some (.int .i64 (c.bad : Int))
  c12 : w.cell? ⟨b, 12, none⟩ = some (.int .u32 0)
  c13 : w.cell? ⟨b, 13, none⟩ = some (.int .i32 0)
  c14 : w.cell? ⟨b, 14, none⟩ = some (.int .u32 0)
  c15 : w.cell? ⟨b, 15, none⟩ = some (.bool false)

/-- What a flow's place says of its credit. -/
structure FC (ck : Nat) (f : Pace.Fl) (cr rk : Nat) : Prop where
  rle : rk ≤ ck
  cle : cr ≤ f.burst * Pace.parts
  eq : f.cr = Pace.acc cr f.rate (f.burst * Pace.parts) (ck - rk)

structure PM (w : World) (b : Nat) (y : Lay) (s : Pace.St) (nw : Nat) (P : List Pace.Cmd) (c : Cn) : Prop where
  tb : y.tag b = .self
  t0 : y.tag 0 = .none
  lt : ∀ k, y.own k → k < w.heap.size
  fz : ∀ o, w.frozen? ⟨b, o, none⟩ = false
  pb : PB w b s.q s.clock nw y.fv y.pv y.wb c
  rf : w.ownsRow 0 132 1 y.fv s.fl.length (s.fl.map fun f => Value.pointer (some ⟨y.B f.num, 0, none⟩))
  tf : ∀ g, y.fv.ownBlock = some g → y.tag g = .rowF
  rp : w.ownsRow 0 136 5 y.pv P.length (cmdsC y.B P)
  tp : ∀ g, y.pv.ownBlock = some g → y.tag g = .rowP
  wa : WA w y.wb y.wo y.wn (s.A.map fun a => (a.num, a.at'))
  two : ∀ k, y.wo k → y.tag k = .wheel
  wn : y.wn ≤ s.clock
  fl : ∀ f ∈ s.fl, FA w (y.B f.num) f (y.cr f.num) (y.rk f.num) (y.bt f.num) (y.V f.num)
  fc : ∀ f ∈ s.fl, FC s.clock f (y.cr f.num) (y.rk f.num)
  tl : ∀ f ∈ s.fl, y.tag (y.B f.num) = .flow f.num
  tk : ∀ f ∈ s.fl, ∀ g, (y.V f.num).ownBlock = some g → y.tag g = .pk f.num
  ak : ∀ a ∈ s.A, y.bt a.num = a.k

theorem row_kept {w w' : World} {n0 e sz n : Nat} {v : Value} {xs : List Value} (h : w.ownsRow n0 e sz v n xs) (hk : ∀ g, v.ownBlock = some g → w'.heap[g]? = w.heap[g]?) : w'.ownsRow n0 e sz v n xs := by
  refine ⟨h.1, ?_⟩
  rcases h.2 with q | ⟨g, cap, cur, h1, h2, h3, h4⟩
  · exact .inl q
  · exact .inr ⟨g, cap, cur, h1, h2, by rw [hk g (by rw [h1]; rfl)]; exact h3, h4⟩
theorem FA.kept {w w' : World} {x : Nat} {f : Pace.Fl} {cr rk bt : Nat} {v : Value} (h : FA w x f cr rk bt v) (hx : w'.heap[x]? = w.heap[x]?) (hv : ∀ g, v.ownBlock = some g → w'.heap[g]? = w.heap[g]?) : FA w' x f cr rk bt v := by
  have hc : ∀ o, w'.cell? ⟨x, o, none⟩ = w.cell? ⟨x, o, none⟩ := fun o => World.cell?_of_block (w := w) (a := ⟨x, o, none⟩) hx
  exact ⟨by rw [hc]; exact h.c0, by rw [hc]; exact h.c1, by rw [hc]; exact h.c2, by rw [hc]; exact h.c3, by rw [hc]; exact h.c4, by rw [hc]; exact h.c5, by rw [hc]; exact h.c6, by rw [hc]; exact h.c7, row_kept h.row hv, fun o => (frozen_of hx o).trans (h.fz o)⟩
theorem PB.kept {w w' : World} {b q ck nw : Nat} {fv pv : Value} {wb : Nat} {c : Cn} (h : PB w b q ck nw fv pv wb c) (hx : w'.heap[b]? = w.heap[b]?) : PB w' b q ck nw fv pv wb c := by
  have hc : ∀ o, w'.cell? ⟨b, o, none⟩ = w.cell? ⟨b, o, none⟩ := fun o => World.cell?_of_block (w := w) (a := ⟨b, o, none⟩) hx
  exact ⟨by rw [hc]; exact h.c0, by rw [hc]; exact h.c1, by rw [hc]; exact h.c2, by rw [hc]; exact h.c3, by rw [hc]; exact h.c4, by rw [hc]; exact h.c5, by rw [hc]; exact h.c6, by rw [hc]; exact h.c7, by rw [hc]; exact h.c8, by rw [hc]; exact h.c9, by rw [hc]; exact h.c10, by rw [hc]; exact h.c11, by rw [hc]; exact h.c12, by rw [hc]; exact h.c13, by rw [hc]; exact h.c14, by rw [hc]; exact h.c15⟩

/-- One call's step: what is not its own, and was there, is as it was, and stays not its own. -/
structure Step (w w' : World) (y y' : Lay) : Prop where
  fr : Fr w w' y.own
  ext : ∀ k, k < w.heap.size → y.tag k = .none → y'.tag k = .none
theorem Step.refl (w : World) (y : Lay) : Step w w y y := ⟨Fr.refl _ _, fun _ _ h => h⟩
theorem Step.trans {a b c : World} {x y z : Lay} (h : Step a b x y) (k : Step b c y z) : Step a c x z :=
  ⟨h.fr.trans k.fr fun n hn q e => q (h.ext n hn e), fun n hn e => k.ext n (Nat.lt_of_lt_of_le hn h.fr.size) (h.ext n hn e)⟩


/-- A pacer hangs on its own blocks alone. -/
theorem PM.kept {w w' : World} {b : Nat} {y : Lay} {s : Pace.St} {nw : Nat} {P : List Pace.Cmd} {c : Cn} (h : PM w b y s nw P c) {O : Nat → Prop} (hf : Fr w w' O) (hd : ∀ k, y.own k → ¬ O k) : PM w' b y s nw P c := by
  have hk : ∀ k, y.own k → w'.heap[k]? = w.heap[k]? := fun k hO => hf.blk k (h.lt k hO) (hd k hO)
  have ho : ∀ k t, y.tag k = t → t ≠ .none → y.own k := fun k t e hn q => hn (e.symm.trans q)
  refine ⟨h.tb, h.t0, fun k hO => Nat.lt_of_lt_of_le (h.lt k hO) hf.size, fun o => (frozen_of (hk b (ho _ _ h.tb (by simp))) o).trans (h.fz o), h.pb.kept (hk b (ho _ _ h.tb (by simp))),
    row_kept h.rf fun g hg => hk g (ho _ _ (h.tf g hg) (by simp)), h.tf, row_kept h.rp fun g hg => hk g (ho _ _ (h.tp g hg) (by simp)), h.tp, ?_, h.two, h.wn, ?_, h.fc, h.tl, h.tk, h.ak⟩
  · exact h.wa.kept hf fun k hO => hd k (ho _ _ (h.two k hO) (by simp))
  · exact fun f hfl => (h.fl f hfl).kept (hk _ (ho _ _ (h.tl f hfl) (by simp))) fun g hg => hk g (ho _ _ (h.tk f hfl g hg) (by simp))
theorem PM.drew {w : World} {b : Nat} {y : Lay} {s : Pace.St} {nw : Nat} {P : List Pace.Cmd} {c : Cn} (h : PM w b y s nw P c) : PM w.drew b y s nw P c := h.kept (O := fun _ => False) (Fr.refl _ _).drew fun _ _ q => q
theorem PM.drewN {w : World} {b : Nat} {y : Lay} {s : Pace.St} {nw : Nat} {P : List Pace.Cmd} {c : Cn} (h : PM w b y s nw P c) (n : Nat) : PM (w.drewN n) b y s nw P c := h.kept (O := fun _ => False) ((Fr.refl _ _).drewN n) fun _ _ q => q
theorem PM.ow {w : World} {b : Nat} {y : Lay} {s : Pace.St} {nw : Nat} {P : List Pace.Cmd} {c : Cn} (h : PM w b y s nw P c) : y.own b := by rw [Lay.own, h.tb]; simp

theorem PM.own_of {w : World} {b : Nat} {y : Lay} {s : Pace.St} {nw : Nat} {P : List Pace.Cmd} {c : Cn} (h : PM w b y s nw P c) {k : Nat} {t : Tag} (e : y.tag k = t) (hn : t ≠ .none) : y.own k := fun q => hn (e.symm.trans q)

/-- The wheel has turned. -/
theorem PM.wheel {w w' : World} {b : Nat} {y : Lay} {s : Pace.St} {nw : Nat} {P : List Pace.Cmd} {c : Cn} (h : PM w b y s nw P c) {O' : Nat → Prop} {wn' : Nat} {A' : List Pace.Ar} (hf : Fr w w' y.wo) (hw : WA w' y.wb O' wn' (A'.map fun a => (a.num, a.at'))) (hO : ∀ k, O' k → y.wo k ∨ w.heap.size ≤ k) (hwn : wn' ≤ s.clock) (hak : ∀ a ∈ A', y.bt a.num = a.k) :
    ∃ y', PM w' b y' { s with A := A' } nw P c ∧ Step w w' y y' ∧ y'.B = y.B ∧ y'.bt = y.bt ∧ y'.wb = y.wb ∧ y'.wn = wn' ∧ y'.pv = y.pv := by
  have hk : ∀ k, y.own k → y.tag k ≠ .wheel → w'.heap[k]? = w.heap[k]? := fun k hO hw => hf.blk k (h.lt k hO) fun q => hw (h.two k q)
  have hkt : ∀ k t, y.tag k = t → t ≠ .none → t ≠ .wheel → w'.heap[k]? = w.heap[k]? := fun k t e h1 h2 => hk k (h.own_of e h1) (by rw [e]; exact h2)
  refine ⟨{ y with tag := fun k => if k < w.heap.size then y.tag k else if k < w'.heap.size then .wheel else .none, wn := wn', wo := O' }, ⟨?_, ?_, ?_, ?_, ?_, ?_, ?_, ?_, ?_, hw, ?_, hwn, ?_, h.fc, ?_, ?_, hak⟩, ⟨?_, ?_⟩, rfl, rfl, rfl, rfl, rfl⟩
  · show (if b < w.heap.size then _ else _) = _
    rw [if_pos (h.lt b h.ow)]; exact h.tb
  · show (if 0 < w.heap.size then _ else _) = _
    rw [if_pos (Nat.lt_of_le_of_lt (Nat.zero_le _) (h.lt b h.ow))]; exact h.t0
  · intro k hO
    have hO' : (if k < w.heap.size then y.tag k else if k < w'.heap.size then Tag.wheel else .none) ≠ .none := hO
    by_cases q : k < w.heap.size
    · exact Nat.lt_of_lt_of_le q hf.size
    · rw [if_neg q] at hO'
      by_cases q' : k < w'.heap.size
      · exact q'
      · rw [if_neg q'] at hO'; exact absurd rfl hO'
  · exact fun o => (frozen_of (hkt b _ h.tb (by simp) (by simp)) o).trans (h.fz o)
  · exact h.pb.kept (hkt b _ h.tb (by simp) (by simp))
  · exact row_kept h.rf fun g hg => hkt g _ (h.tf g hg) (by simp) (by simp)
  · intro g hg
    show (if g < w.heap.size then _ else _) = _
    rw [if_pos (h.lt g (h.own_of (h.tf g hg) (by simp)))]; exact h.tf g hg
  · exact row_kept h.rp fun g hg => hkt g _ (h.tp g hg) (by simp) (by simp)
  · intro g hg
    show (if g < w.heap.size then _ else _) = _
    rw [if_pos (h.lt g (h.own_of (h.tp g hg) (by simp)))]; exact h.tp g hg
  · intro k hk'
    show (if k < w.heap.size then _ else _) = _
    rcases hO k hk' with q | q
    · rw [if_pos (h.lt k (h.own_of (h.two k q) (by simp)))]; exact h.two k q
    · rw [if_neg (by omega), if_pos (hw.olt hk')]
  · exact fun f hfl => (h.fl f hfl).kept (hkt _ _ (h.tl f hfl) (by simp) (by simp)) fun g hg => hkt g _ (h.tk f hfl g hg) (by simp) (by simp)
  · intro f hfl
    show (if y.B f.num < w.heap.size then _ else _) = _
    rw [if_pos (h.lt _ (h.own_of (h.tl f hfl) (by simp)))]; exact h.tl f hfl
  · intro f hfl g hg
    show (if g < w.heap.size then _ else _) = _
    rw [if_pos (h.lt _ (h.own_of (h.tk f hfl g hg) (by simp)))]; exact h.tk f hfl g hg
  · exact ⟨hf.os, hf.tape, hf.output, hf.size, fun k hk' hn => hf.blk k hk' fun q => hn (h.own_of (h.two k q) (by simp))⟩
  · intro k hk' e
    show (if k < w.heap.size then _ else _) = _
    rw [if_pos hk']; exact e

/-- One flow has turned. -/
theorem PM.flowG {w w' : World} {b : Nat} {y : Lay} {s : Pace.St} {nw : Nat} {P : List Pace.Cmd} {c : Cn} (h : PM w b y s nw P c) {n : Nat} {f f' : Pace.Fl} (hn : Pace.look s.fl n = some f) (hf' : f'.num = n) {cr rk bt : Nat} {v : Value}
    {O : Nat → Prop} (hfr : Fr w w' O) (hOt : ∀ k, O k → y.tag k = .flow n ∨ y.tag k = .pk n ∨ y.tag k = .none) (hFA : FA w' (y.B n) f' cr rk bt v) (hFC : FC s.clock f' cr rk)
    (hv : ∀ g, v.ownBlock = some g → ((y.V n).ownBlock = some g ∨ w.heap.size ≤ g)) (hbt : ∀ a ∈ s.A, a.num = n → bt = a.k) :
    ∃ y', PM w' b y' { s with fl := Pace.upd s.fl n (fun _ => f') } nw P c ∧ (∀ k, k < w.heap.size → y.tag k = .none → y'.tag k = .none) ∧ y'.B = y.B ∧ y'.bt n = bt ∧ y'.wb = y.wb ∧ y'.wn = y.wn ∧ y'.pv = y.pv ∧ ∀ k, v.ownBlock ≠ some k → y'.tag k = y.tag k := by
  obtain ⟨hfm, hfn⟩ := Pace.look_some hn
  have hk : ∀ k t, y.tag k = t → t ≠ .none → t ≠ .flow n → t ≠ .pk n → w'.heap[k]? = w.heap[k]? := fun k t e h1 h2 h3 => hfr.blk k (h.lt k (h.own_of e h1)) fun q => by
    rcases hOt k q with q | q | q
    · exact h2 (e.symm.trans q)
    · exact h3 (e.symm.trans q)
    · exact h1 (e.symm.trans q)
  have hvl : ∀ g, v.ownBlock = some g → g < w'.heap.size := fun g hg => (hFA.row.lt g hg).2
  have hvt : ∀ k, k < w.heap.size → y.tag k ≠ .pk n → v.ownBlock ≠ some k := fun k hkl hkt e => by
    rcases hv k e with q | q
    · have := h.tk f hfm k (by rw [hfn]; exact q)
      rw [hfn] at this
      exact hkt this
    · omega
  have hvo : ∀ k t, y.tag k = t → t ≠ .none → t ≠ .pk n → v.ownBlock ≠ some k := fun k t e h1 h2 => hvt k (h.lt k (h.own_of e h1)) (by rw [e]; exact h2)
  have hmem : ∀ x ∈ Pace.upd s.fl n (fun _ => f'), (x = f') ∨ (x ∈ s.fl ∧ x.num ≠ n) := fun x hx => by
    obtain ⟨z, hz, ⟨q1, q2⟩ | ⟨q1, q2⟩⟩ := Pace.mem_upd hx
    · exact .inl q2
    · rw [q2]; exact .inr ⟨hz, q1⟩
  have htl : ∀ x ∈ s.fl, x.num ≠ n → y.B x.num ≠ y.B n := fun x hx hxn e => by
    have h1 := h.tl x hx
    have h2 := h.tl f hfm
    rw [hfn] at h2
    rw [e, h2] at h1
    injection h1 with h1; exact hxn h1.symm
  refine ⟨{ y with tag := fun k => if v.ownBlock = some k then .pk n else y.tag k, V := upd y.V n v, cr := upd y.cr n cr, rk := upd y.rk n rk, bt := upd y.bt n bt }, ⟨?_, ?_, ?_, ?_, ?_, ?_, ?_, ?_, ?_, ?_, ?_, h.wn, ?_, ?_, ?_, ?_, ?_⟩, ?_, rfl, upd_same _ _ _, rfl, rfl, rfl, fun k hk' => if_neg hk'⟩
  · show (if _ then _ else _) = _
    rw [if_neg (hvo b _ h.tb (by simp) (by simp))]; exact h.tb
  · show (if _ then _ else _) = _
    rw [if_neg (hvt 0 (Nat.lt_of_le_of_lt (Nat.zero_le _) (h.lt b h.ow)) (by rw [h.t0]; simp))]; exact h.t0
  · intro k hO
    have hO' : (if v.ownBlock = some k then Tag.pk n else y.tag k) ≠ .none := hO
    by_cases q : v.ownBlock = some k
    · exact hvl k q
    · rw [if_neg q] at hO'
      exact Nat.lt_of_lt_of_le (h.lt k hO') hfr.size
  · exact fun o => (frozen_of (hk b _ h.tb (by simp) (by simp) (by simp)) o).trans (h.fz o)
  · exact h.pb.kept (hk b _ h.tb (by simp) (by simp) (by simp))
  · have e : (Pace.upd s.fl n (fun _ => f')).map (fun x => Value.pointer (some ⟨y.B x.num, 0, none⟩)) = s.fl.map fun x => Value.pointer (some ⟨y.B x.num, 0, none⟩) := by
      unfold Pace.upd
      rw [List.map_map]
      apply List.map_congr_left
      intro x hx
      show Value.pointer (some ⟨y.B (if x.num = n then f' else x).num, 0, none⟩) = _
      split
      · rename_i q; rw [hf', q]
      · rfl
    have e2 : (Pace.upd s.fl n (fun _ => f')).length = s.fl.length := by simp [Pace.upd]
    show w'.ownsRow 0 132 1 y.fv (Pace.upd s.fl n (fun _ => f')).length ((Pace.upd s.fl n (fun _ => f')).map _)
    rw [e, e2]
    exact row_kept h.rf fun g hg => hk g _ (h.tf g hg) (by simp) (by simp) (by simp)
  · intro g hg
    show (if _ then _ else _) = _
    rw [if_neg (hvo g _ (h.tf g hg) (by simp) (by simp))]; exact h.tf g hg
  · exact row_kept h.rp fun g hg => hk g _ (h.tp g hg) (by simp) (by simp) (by simp)
  · intro g hg
    show (if _ then _ else _) = _
    rw [if_neg (hvo g _ (h.tp g hg) (by simp) (by simp))]; exact h.tp g hg
  · exact h.wa.kept hfr fun k hO q => by
      have := h.two k hO
      rcases hOt k q with q | q | q <;> rw [this] at q <;> cases q
  · intro k hO
    show (if _ then _ else _) = _
    rw [if_neg (hvo k _ (h.two k hO) (by simp) (by simp))]; exact h.two k hO
  · intro x hx
    rcases hmem x hx with rfl | ⟨q1, q2⟩
    · rw [hf']
      simp only [upd_same]
      exact hFA
    · simp only [upd_other _ _ q2]
      refine (h.fl x q1).kept (hk _ _ (h.tl x q1) (by simp) (by simpa using q2) (by simp)) fun g hg => hk g _ (h.tk x q1 g hg) (by simp) (by simp) (by simpa using q2)
  · intro x hx
    rcases hmem x hx with rfl | ⟨q1, q2⟩
    · rw [hf']
      simp only [upd_same]
      exact hFC
    · simp only [upd_other _ _ q2]
      exact h.fc x q1
  · intro x hx
    have hBt : ∀ z ∈ s.fl, (if v.ownBlock = some (y.B z.num) then Tag.pk n else y.tag (y.B z.num)) = .flow z.num := fun z hz => by
      rw [if_neg (hvo _ _ (h.tl z hz) (by simp) (by simp))]; exact h.tl z hz
    rcases hmem x hx with rfl | ⟨q1, q2⟩
    · have := hBt f hfm
      rw [hfn] at this
      rw [hf']
      exact this
    · exact hBt x q1
  · intro x hx g hg
    show (if _ then _ else _) = _
    rcases hmem x hx with rfl | ⟨q1, q2⟩
    · rw [hf'] at hg ⊢
      simp only [upd_same] at hg
      rw [if_pos hg]
    · simp only [upd_other _ _ q2] at hg
      rw [if_neg (hvo g _ (h.tk x q1 g hg) (by simp) (by simpa using q2))]
      exact h.tk x q1 g hg
  · intro a ha
    show upd y.bt n bt a.num = a.k
    by_cases q : a.num = n
    · rw [q, upd_same]; exact hbt a ha q
    · rw [upd_other _ _ q]; exact h.ak a ha
  · intro k hk' e
    show (if _ then _ else _) = _
    rw [if_neg (hvt k hk' (by rw [e]; simp))]; exact e
theorem PM.flow {w w' : World} {b : Nat} {y : Lay} {s : Pace.St} {nw : Nat} {P : List Pace.Cmd} {c : Cn} (h : PM w b y s nw P c) {n : Nat} {f f' : Pace.Fl} (hn : Pace.look s.fl n = some f) (hf' : f'.num = n) {cr rk bt : Nat} {v : Value}
    (hfr : Fr w w' (fun k => y.tag k = .flow n ∨ y.tag k = .pk n)) (hFA : FA w' (y.B n) f' cr rk bt v) (hFC : FC s.clock f' cr rk)
    (hv : ∀ g, v.ownBlock = some g → ((y.V n).ownBlock = some g ∨ w.heap.size ≤ g)) (hbt : ∀ a ∈ s.A, a.num = n → bt = a.k) :
    ∃ y', PM w' b y' { s with fl := Pace.upd s.fl n (fun _ => f') } nw P c ∧ Step w w' y y' ∧ y'.B = y.B ∧ y'.bt n = bt ∧ y'.wb = y.wb ∧ y'.wn = y.wn ∧ y'.pv = y.pv := by
  obtain ⟨y', h1, h2, h3, h4, h5, h6, h7, _⟩ := h.flowG hn hf' hfr (fun k q => by rcases q with q | q; exact .inl q; exact .inr (.inl q)) hFA hFC hv hbt
  exact ⟨y', h1, ⟨⟨hfr.os, hfr.tape, hfr.output, hfr.size, fun k hk' hn' => hfr.blk k hk' fun q => hn' (by rcases q with q | q <;> exact h.own_of q (by simp))⟩, h2⟩, h3, h4, h5, h6, h7⟩
end Go.Proofs.YtogdekjklbbbiaaDoor

namespace Go.Proofs.YtogdekjklbbbiaaDoor
open Go.ChangeShapes Go.WideShapes Go.ChangeAt Go.RowKit
set_option linter.unusedSimpArgs false
set_option linter.unusedVariables false

theorem acc_nat (c r m t : Nat) (h : c ≤ m) : acc (c : Int) (r : Int) (m : Int) (t : Int) = (Pace.acc c r m t : Int) := by
  unfold acc Pace.acc
  rw [if_neg (by omega)]
  have e : (r : Int) * (t : Int) = ((r * t : Nat) : Int) := by simp
  rw [e]
  split <;> omega
theorem accE_nat (c r m t : Nat) (h : c ≤ m) : accE (c : Int) (r : Int) (m : Int) (t : Int) = 0 := by
  unfold accE
  rw [if_neg (by omega)]
theorem unt_nat (c r m : Nat) (hr : 0 < r) : unt (c : Int) (r : Int) (m : Int) = (Pace.til c r m : Int) ∧ untE (c : Int) (r : Int) (m : Int) = 0 := by
  have h0 : ¬ ((c : Int) < 0 ∨ (r : Int) < 0 ∨ (m : Int) < 0) := by omega
  have hr0 : ¬ ((r : Int) = 0) := by omega
  by_cases h : m ≤ c
  · have h' : (m : Int) ≤ (c : Int) := by omega
    simp only [unt, untE, Pace.til, if_neg h0, if_pos h', if_pos h]
    exact ⟨rfl, trivial⟩
  · have h' : ¬ (m : Int) ≤ (c : Int) := by omega
    simp only [unt, untE, Pace.til, if_neg h0, if_neg h', if_neg h, if_neg hr0]
    refine ⟨?_, trivial⟩
    have e1 : m - c + (r - 1) = (m - c - 1) + r := by omega
    have e2 : ((m : Int) - (c : Int) - 1) = ((m - c - 1 : Nat) : Int) := by omega
    rw [e1, Nat.add_div_right _ hr, e2]
    simp
theorem FA.ch {w w' : World} {x : Nat} {f : Pace.Fl} {cr rk bt : Nat} {v : Value} (h : FA w x f cr rk bt v) (hvx : v.ownBlock ≠ some x) {S : Nat → Nat → Prop} (hc : Ch w w' S) (hS : ∀ a o, S a o → a = x) : w'.ownsRow 0 102 2 v f.pk.length (pkC f.pk) ∧ ∀ o, w'.frozen? ⟨x, o, none⟩ = false := by
  refine ⟨row_kept h.row fun g hg => hc.blk g fun o q => hvx ?_, fun o => (hc.fz _).trans (h.fz o)⟩
  rw [hg, hS g o q]
theorem fl_accrue {w : World} {x : Nat} {f : Pace.Fl} {cr rk bt ck q : Nat} {v : Value} (h : FA w x f cr rk bt v) (hC : FC ck f cr rk) (hF : Pace.FOk q f) (hck : ck ≤ 4000000000000000000) (hvx : v.ownBlock ≠ some x) :
    Calls Tryd.prog 94 #[.pointer (some ⟨x, 0, none⟩), .int .i64 (ck : Int)] w fun e w' => e = .returned (.tuple #[]) ∧ Ch w w' (fun a o => a = x ∧ (o = 3 ∨ o = 4)) ∧ FA w' x f f.cr ck bt v := by
  have hp := Pace.parts_eq
  have hb : f.burst ≤ 1000000 := by rcases hF.burst with ⟨q, _⟩ | ⟨_, q⟩ <;> omega
  have hr := hF.rate
  have hcle := hC.cle
  have hrk := hC.rle
  rw [hp] at hcle
  have heq := hC.eq
  rw [hp] at heq
  have hcb : cr ≤ 1000000000000000 := by omega
  refine (accrue_walk x (cr : Int) (f.rate : Int) (f.burst : Int) (rk : Int) (ck : Int) (f.cr : Int) 0 w h.c1 h.c2 h.c3 h.c4 h.fz (by omega) (by omega) (by omega) (by omega) (by omega) fun W => ?_).mono ?_
  · have hA := accrue_any (cr : Int) (f.rate : Int) ((f.burst * 1000000000 : Nat) : Int) ((ck - rk : Nat) : Int) (by omega) (by omega) (by omega) (by omega) W
    rw [acc_nat _ _ _ _ hcle, accE_nat _ _ _ _ hcle, ← heq] at hA
    rw [show ((f.burst : Int) * 1000000000) = ((f.burst * 1000000000 : Nat) : Int) by omega, show (ck : Int) - (rk : Int) = ((ck - rk : Nat) : Int) by omega]
    exact hA
  · rintro e w' ⟨rfl, h1, h2, h3⟩
    obtain ⟨a1, a2⟩ := h.ch hvx h1 (fun a o q => q.1)
    have hc : ∀ o, o ≠ 3 → o ≠ 4 → w'.cell? ⟨x, o, none⟩ = w.cell? ⟨x, o, none⟩ := fun o o1 o2 => h1.cell x o (by omega)
    exact ⟨rfl, h1, ⟨by rw [hc 0 (by omega) (by omega)]; exact h.c0, by rw [hc 1 (by omega) (by omega)]; exact h.c1, by rw [hc 2 (by omega) (by omega)]; exact h.c2, h2, h3, by rw [hc 5 (by omega) (by omega)]; exact h.c5, by rw [hc 6 (by omega) (by omega)]; exact h.c6, by rw [hc 7 (by omega) (by omega)]; exact h.c7, a1, a2⟩⟩
theorem pkC_get : ∀ (pk : List (Int × Nat)) (k : Nat) (p : Int × Nat), pk[k]? = some p → (pkC pk)[k * 2]? = some (.int .i64 p.1) ∧ (pkC pk)[k * 2 + 1]? = some (.int .i64 (p.2 : Int))
  | [], k, p, h => by simp at h
  | q :: pk, 0, p, h => by simp at h; subst h; exact ⟨rfl, rfl⟩
  | q :: pk, k + 1, p, h => by
    have := pkC_get pk k p (by simpa using h)
    have e : pkC (q :: pk) = .int .i64 q.1 :: .int .i64 (q.2 : Int) :: pkC pk := rfl
    rw [e, show (k + 1) * 2 = k * 2 + 1 + 1 by omega]
    simpa using this
theorem row_get {w : World} {e sz n g cap : Nat} {xs : List Value} (h : w.ownsRow 0 e sz (.slice (some ⟨g, 0, none⟩) n cap) n xs) {j : Nat} {u : Value} (hu : xs[j]? = some u) : w.cell? ⟨g, j, none⟩ = some u := by
  have := h.cells (g := g) rfl j u hu
  rw [add_lit, Nat.zero_add] at this
  exact this
theorem upd_look {l : List Pace.Fl} (hnd : (l.map (·.num)).Nodup) {n : Nat} {f : Pace.Fl} (h : Pace.look l n = some f) : Pace.upd l n (fun _ => f) = l := by
  obtain ⟨h1, h2⟩ := Pace.look_some h
  unfold Pace.upd
  conv => rhs; rw [← List.map_id l]
  apply List.map_congr_left
  intro x hx
  show (if x.num = n then f else x) = x
  split
  · rename_i q
    have := Pace.look_of_mem hnd hx
    rw [q, h] at this
    injection this
  · rfl
theorem til_need' {f : Pace.Fl} {q : Nat} (hb : f.burst ≤ 1000000) (hq : q ≤ 1000000) (hr : 0 < f.rate) : Pace.til f.cr f.rate (Pace.bytes (f.pk.take (f.size q)) * Pace.parts) ≤ 1000000000000000 := by
  have h1 := Pace.til_need (c := f.cr) (n := Pace.bytes (f.pk.take (f.size q)) * Pace.parts) hr
  have h2 := Pace.Fl.size_room q f
  have hp := Pace.parts_eq
  rw [hp] at h1 ⊢
  omega
/-- A flow makes up its batch. -/
theorem fl_arm {w : World} {x : Nat} {f : Pace.Fl} {cr rk bt ck q : Nat} {v : Value} (h : FA w x f cr rk bt v) (hC : FC ck f cr rk) (hF : Pace.FOk q f) (hq : 1500 ≤ q ∧ q ≤ 1000000) (hck : ck ≤ 4000000000000000000) (hvx : v.ownBlock ≠ some x) (ha : 0 < f.adm) (hr : 0 < f.rate) :
    Calls Tryd.prog 95 #[.pointer (some ⟨x, 0, none⟩), .int .i64 (q : Int), .int .i64 (ck : Int)] w fun e w' => e = .returned (.int .i64 ((f.instant q ck : Nat) : Int)) ∧ Ch w w' (fun a o => a = x ∧ (o = 3 ∨ o = 4 ∨ o = 7)) ∧ FA w' x f f.cr ck (f.size q) v := by
  have hp := Pace.parts_eq
  have hb : f.burst ≤ 1000000 := by rcases hF.burst with ⟨q, _⟩ | ⟨_, q⟩ <;> omega
  have hadm := hF.adm
  have hfew := hF.few
  obtain ⟨g, cap, hv, _, hgl, hvg, hnc, _⟩ := row_shape h.row (by omega)
  have hgx : g ≠ x := fun e => hvx (by rw [hvg, e])
  have hrow := h.row
  rw [hv] at hrow
  have hlt : (f.pk.take f.adm).length = f.adm := by rw [List.length_take]; omega
  have hti := til_need' (f := f) (q := q) hb hq.2 hr
  refine (farm_walk x g cap f.pk.length q ck f.rate f.burst f.cr (Pace.til f.cr f.rate (Pace.bytes (f.pk.take (f.size q)) * Pace.parts)) f.adm (min q f.burst) (f.pk.take f.adm) w (fun w1 => Ch w w1 (fun a o => a = x ∧ (o = 3 ∨ o = 4)) ∧ FA w1 x f f.cr ck bt v) hlt hadm hfew (fun p hp => (hF.lens p (List.mem_of_mem_take hp)).2) hgx hq.2 hb (by omega) hck hti (fl_accrue h hC hF hck hvx) ?_ ?_).mono ?_
  · rintro w1 ⟨hc1, h1⟩
    refine ⟨h1.c1, h1.c2, h1.c3, by rw [← hv]; exact h1.c5, h1.c6, ⟨_, h1.c7⟩, h1.fz, fun k p hk => ?_⟩
    have hr1 := h1.row
    rw [hv] at hr1
    have hk' : f.pk[k]? = some p := by
      rw [List.getElem?_take] at hk
      split at hk
      · exact hk
      · cases hk
    exact row_get hr1 (pkC_get f.pk k p hk').2
  · intro W
    have hs : (f.pk.take f.adm).take (Pace.fit (f.pk.take f.adm) (min q f.burst)) = f.pk.take (f.size q) := by
      rw [List.take_take, Nat.min_eq_left]
      · rfl
      · have := Pace.Fl.size_le q f; exact this
    rw [hs]
    have hby := Pace.Fl.size_room q f
    have hU := until_any (f.cr : Int) (f.rate : Int) ((Pace.bytes (f.pk.take (f.size q)) * 1000000000 : Nat) : Int) (by have := hF.cr; rw [hp] at this; omega) (by have := hF.rate; omega) (by omega) W
    obtain ⟨u1, u2⟩ := unt_nat f.cr f.rate (Pace.bytes (f.pk.take (f.size q)) * 1000000000) hr
    rw [u1, u2] at hU
    rw [hp, show ((Pace.bytes (f.pk.take (f.size q)) : Int) * 1000000000) = ((Pace.bytes (f.pk.take (f.size q)) * 1000000000 : Nat) : Int) by omega]
    exact hU
  · rintro e w' ⟨rfl, w1, ⟨hc1, h1⟩, h2, h3⟩
    have hc : Ch w w' (fun a o => a = x ∧ (o = 3 ∨ o = 4 ∨ o = 7)) := (hc1.trans h2).mono fun a o q => by
      rcases q with ⟨q1, q2⟩ | ⟨q1, q2⟩
      · exact ⟨q1, by omega⟩
      · exact ⟨q1, by omega⟩
    obtain ⟨a1, a2⟩ := h1.ch hvx h2 (fun a o q => q.1)
    have hcc : ∀ o, o ≠ 7 → w'.cell? ⟨x, o, none⟩ = w1.cell? ⟨x, o, none⟩ := fun o o1 => h2.cell x o (by omega)
    exact ⟨rfl, hc, ⟨by rw [hcc 0 (by omega)]; exact h1.c0, by rw [hcc 1 (by omega)]; exact h1.c1, by rw [hcc 2 (by omega)]; exact h1.c2, by rw [hcc 3 (by omega)]; exact h1.c3, by rw [hcc 4 (by omega)]; exact h1.c4, by rw [hcc 5 (by omega)]; exact h1.c5, by rw [hcc 6 (by omega)]; exact h1.c6, h3, a1, a2⟩⟩
end Go.Proofs.YtogdekjklbbbiaaDoor

namespace Go.Proofs.YtogdekjklbbbiaaDoor
open Go.ChangeShapes Go.WideShapes Go.ChangeAt Go.RowKit
set_option linter.unusedSimpArgs false
set_option linter.unusedVariables false

theorem Ch.fr2 {w w' : World} {S : Nat → Nat → Prop} {O : Nat → Prop} (h : Ch w w' S) (hS : ∀ a o, S a o → O a) : Fr w w' O := ⟨h.os, h.tape, h.output, by rw [h.size]; exact Nat.le_refl _, fun k _ hn => h.blk k fun o q => hn (hS k o q)⟩
theorem PM.vx {w : World} {b : Nat} {y : Lay} {s : Pace.St} {nw : Nat} {P : List Pace.Cmd} {c : Cn} (h : PM w b y s nw P c) {f : Pace.Fl} (hf : f ∈ s.fl) {x : Nat} (hx : y.tag x ≠ .pk f.num) : (y.V f.num).ownBlock ≠ some x := fun e => hx (h.tk f hf x e)
theorem can_off (A : List Pace.Ar) (n : Nat) : canA (A.map fun a => (a.num, a.at')) (n : Int) = (Pace.off A n).map fun a => (a.num, a.at') := by
  unfold canA Pace.off
  rw [List.filter_map]
  congr 1
  apply List.filter_congr
  intro a _
  simp only [Function.comp, decide_eq_decide]
  constructor
  · intro q e; exact q (by rw [e])
  · intro q e; exact q (by omega)
theorem ins_ok {A : List (Nat × Nat)} {n t : Nat} (h : ∀ p ∈ A, p.1 ≠ n) : insA A (n : Int) (t : Int) = A ++ [(n, t)] := by
  unfold insA
  rw [if_neg (by omega), if_neg]
  · simp
  · rintro ⟨p, hp, e⟩
    exact h p hp (by omega)

/-- The pacer arms a flow. -/
theorem pm_arm {w : World} {b : Nat} {y : Lay} {s : Pace.St} {nw : Nat} {P : List Pace.Cmd} {c : Cn} (h : PM w b y s nw P c) (hnd : (s.fl.map (·.num)).Nodup) {n : Nat} {f : Pace.Fl} (hn : Pace.look s.fl n = some f) (hF : Pace.FOk s.q f) (hq : 1500 ≤ s.q ∧ s.q ≤ 1000000) (hck : s.clock ≤ 4000000000000000000) (hnb : n < 9223372036854775808) (hAl : s.A.length < 1000) :
    Calls Tryd.prog 82 #[.pointer (some ⟨b, 0, none⟩), .pointer (some ⟨y.B n, 0, none⟩)] w fun e w' => e = .returned (.tuple #[]) ∧ ∃ y', PM w' b y' (Pace.arm s n) nw P c ∧ Step w w' y y' ∧ y'.B = y.B ∧ y'.pv = y.pv ∧ y'.wb = y.wb ∧ y'.wn = y.wn := by
  obtain ⟨hfm, hfn⟩ := Pace.look_some hn
  have hfl := h.fl f hfm
  rw [hfn] at hfl
  have hS : ∀ (W : World) (y' : Lay) (s' : Pace.St), PM W b y' s' nw P c → s'.q = s.q → s'.clock = s.clock → s'.fl = s.fl → y'.B = y.B → y'.wb = y.wb → W.cell? ⟨b, 5, none⟩ = some (.pointer (some ⟨y.wb, 0, none⟩)) ∧ W.cell? ⟨y.B n, 0, none⟩ = some (.int .i64 (n : Int)) ∧ W.cell? ⟨b, 0, none⟩ = some (.int .i64 (s.q : Int)) ∧ W.cell? ⟨b, 1, none⟩ = some (.int .i64 (s.clock : Int)) := by
    intro W y' s' hP e1 e2 e3 e4 e5
    have hf' := hP.fl f (by rw [e3]; exact hfm)
    rw [hfn, e4] at hf'
    refine ⟨by rw [← e5]; exact hP.pb.c5, ?_, by rw [← e1]; exact hP.pb.c0, by rw [← e2]; exact hP.pb.c1⟩
    have := hf'.c0
    rw [hfn] at this
    exact this
  refine (parm_walk b (y.B n) y.wb (n : Int) (s.q : Int) (s.clock : Int) ((f.instant s.q s.clock : Nat) : Int) (f.adm : Int) (f.rate : Int) w
    (fun w1 => ∃ y1, PM w1 b y1 { s with A := Pace.off s.A n } nw P c ∧ Step w w1 y y1 ∧ y1.B = y.B ∧ y1.wb = y.wb ∧ y1.pv = y.pv ∧ y1.wn = y.wn)
    (fun w2 => ∃ y2, PM w2 b y2 { s with A := Pace.off s.A n } nw P c ∧ Step w w2 y y2 ∧ y2.B = y.B ∧ y2.wb = y.wb ∧ y2.bt n = f.size s.q ∧ y2.pv = y.pv ∧ y2.wn = y.wn)
    (fun w3 => ∃ y3, PM w3 b y3 (Pace.arm s n) nw P c ∧ Step w w3 y y3 ∧ y3.B = y.B ∧ y3.wb = y.wb ∧ y3.pv = y.pv ∧ y3.wn = y.wn) ?_ ?_ ?_ ?_ ?_ ?_ ?_).mono ?_
  · exact hS w y s h rfl rfl rfl rfl rfl
  · rintro W (⟨y1, h1, _, h2, h3, _⟩ | ⟨y1, h1, _, h2, h3, _⟩ | ⟨y1, h1, _, h2, h3, _⟩)
    · exact hS W y1 _ h1 rfl rfl rfl h2 h3
    · exact hS W y1 _ h1 rfl rfl rfl h2 h3
    · exact hS W y1 _ h1 (Pace.arm_q _ _) (Pace.arm_clock _ _) (Pace.arm_fl _ _) h2 h3
  · intro m
    have hd := h.drewN m
    refine (wa_cancel hd.wa (n : Int) (by omega) (by omega)).mono ?_
    rintro e w1 ⟨rfl, hfr, hwa⟩
    rw [can_off] at hwa
    obtain ⟨y1, hP, hSt, e1, e2, e3, e4, e5⟩ := hd.wheel hfr hwa (fun k q => .inl q) hd.wn (fun a ha => hd.ak a (Pace.mem_off.1 ha).1)
    exact ⟨_, rfl, y1, hP, ⟨⟨hSt.fr.os, hSt.fr.tape, hSt.fr.output, hSt.fr.size, hSt.fr.blk⟩, hSt.ext⟩, e1, e3, e5, e4⟩
  · rintro w1 ⟨y1, h1, _, e1, _⟩
    have hf' := h1.fl f hfm
    rw [hfn, e1] at hf'
    exact ⟨hf'.c6, hf'.c1⟩
  · rintro hno w1 ⟨y1, h1, hs1, e1, e2, e3, e4⟩
    refine ⟨y1, ?_, hs1, e1, e2, e3, e4⟩
    have : Pace.arm s n = { s with A := Pace.off s.A n } := by
      unfold Pace.arm
      rw [hn]
      simp only
      rw [if_neg (by omega)]
    rw [this]; exact h1
  · rintro ⟨ha, hr⟩ w1 ⟨y1, h1, hs1, e1, e2, e3, e4⟩ m
    have hd := h1.drewN m
    have hf1 := hd.fl f hfm
    have hc1 := hd.fc f hfm
    rw [hfn, e1] at hf1
    rw [hfn] at hc1
    have hBt := hd.tl f hfm
    rw [hfn, e1] at hBt
    have hvx : (y1.V n).ownBlock ≠ some (y.B n) := by
      have := hd.vx hfm (x := y.B n) (by rw [hBt]; simp)
      rw [hfn] at this; exact this
    refine (fl_arm hf1 hc1 hF hq hck hvx (by omega) (by omega)).mono ?_
    rintro e w2 ⟨rfl, hch, hFA⟩
    have hnn : Pace.look ({ s with A := Pace.off s.A n } : Pace.St).fl n = some f := hn
    obtain ⟨y2, hP2, hS2, b1, b2, b3, b4, b5⟩ := hd.flow (f' := f) hnn hfn (hch.fr2 fun a o q => .inl (by rw [q.1]; exact hBt)) (by rw [e1]; exact hFA) ⟨Nat.le_refl _, hF.cr, by rw [Nat.sub_self, Pace.acc_zero hF.cr]⟩ (fun g hg => .inl hg) (fun a ha' q => absurd q (Pace.mem_off.1 ha').2)
    have hup : Pace.upd ({ s with A := Pace.off s.A n } : Pace.St).fl n (fun _ => f) = s.fl := upd_look hnd hn
    rw [hup] at hP2
    refine ⟨rfl, y2, hP2, hs1.trans ⟨⟨hS2.fr.os, hS2.fr.tape, hS2.fr.output, hS2.fr.size, hS2.fr.blk⟩, hS2.ext⟩, b1.trans e1, b3.trans e2, b2, b5.trans e3, b4.trans e4⟩
  · rintro ⟨ha, hr⟩ w2 ⟨y2, h2, hs2, e1, e2, e3, e4, e5⟩
    have hlen : ((Pace.off s.A n).map fun a => (a.num, a.at')).length < maxLen := by
      have := List.length_filter_le (fun a : Pace.Ar => decide (a.num ≠ n)) s.A
      rw [List.length_map]
      unfold Pace.off maxLen
      omega
    have hin : f.instant s.q s.clock ≤ s.clock + 1000000000000000 := hF.instant_le (by omega)
    have hwa := h2.wa
    rw [e2] at hwa
    refine (wa_insert hwa (n : Int) ((f.instant s.q s.clock : Nat) : Int) (by omega) (by omega) hlen).mono ?_
    rintro e w3 ⟨rfl, hfr, O', hw3, hO'⟩
    have hno : ∀ p ∈ (Pace.off s.A n).map (fun a => (a.num, a.at')), p.1 ≠ n := by
      intro p hp
      obtain ⟨a, ha', rfl⟩ := List.mem_map.1 hp
      exact (Pace.mem_off.1 ha').2
    rw [ins_ok hno] at hw3
    have hmap : (Pace.off s.A n).map (fun a => (a.num, a.at')) ++ [(n, f.instant s.q s.clock)] = (Pace.off s.A n ++ [(⟨n, f.instant s.q s.clock, f.size s.q⟩ : Pace.Ar)]).map fun a => (a.num, a.at') := by simp
    rw [hmap, ← e2] at hw3
    obtain ⟨y3, hP3, hS3, b1, b2, b3, b4, b5⟩ := h2.wheel hfr hw3 hO' h2.wn (fun a ha' => by
      rcases List.mem_append.1 ha' with q | q
      · exact h2.ak a q
      · rw [List.mem_singleton.1 q]; exact e3)
    refine ⟨_, rfl, y3, ?_, hs2.trans hS3, b1.trans e1, b3.trans e2, b5.trans e4, b4.trans e5⟩
    have : Pace.arm s n = { s with A := Pace.off s.A n ++ [(⟨n, f.instant s.q s.clock, f.size s.q⟩ : Pace.Ar)] } := by
      unfold Pace.arm
      rw [hn]
      simp only
      rw [if_pos ⟨by omega, by omega⟩]
    rw [this]
    exact hP3
  · rintro e w' ⟨rfl, y3, h1, h2, h3, h4, h5, h6⟩
    exact ⟨rfl, y3, h1, h2, h3, h5, h4, h6⟩
end Go.Proofs.YtogdekjklbbbiaaDoor

namespace Go.Proofs.YtogdekjklbbbiaaDoor
open Go.ChangeShapes Go.WideShapes Go.ChangeAt Go.RowKit
set_option linter.unusedSimpArgs false
set_option linter.unusedVariables false

/-- A flow begins. -/
theorem fl_start {w : World} {x : Nat} {f : Pace.Fl} {cr rk bt : Nat} {v : Value} (h : FA w x f cr rk bt v) (r b ck : Nat) (hb : b ≤ 1000000) (hvx : v.ownBlock ≠ some x) :
    Calls Tryd.prog 80 #[.pointer (some ⟨x, 0, none⟩), .int .i64 (r : Int), .int .i64 (b : Int), .int .i64 (ck : Int)] w fun e w' => e = .returned (.tuple #[]) ∧ Ch w w' (fun a o => a = x ∧ 1 ≤ o ∧ o ≤ 4) ∧ FA w' x { f with rate := r, burst := b, cr := b * Pace.parts } (b * Pace.parts) ck bt v := by
  have hp := Pace.parts_eq
  refine (start_walk x (r : Int) (b : Int) (ck : Int) _ _ _ _ w (by omega) (by omega) h.c1 h.c2 h.c3 h.c4 h.fz).mono ?_
  rintro e w' ⟨rfl, h1, c1, c2, c3, c4⟩
  obtain ⟨a1, a2⟩ := h.ch hvx h1 (fun a o q => q.1)
  have hc : ∀ o, ¬ (1 ≤ o ∧ o ≤ 4) → w'.cell? ⟨x, o, none⟩ = w.cell? ⟨x, o, none⟩ := fun o o1 => h1.cell x o fun q => o1 q.2
  refine ⟨rfl, h1, ⟨by rw [hc 0 (by omega)]; exact h.c0, c1, c2, ?_, c4, by rw [hc 5 (by omega)]; exact h.c5, by rw [hc 6 (by omega)]; exact h.c6, by rw [hc 7 (by omega)]; exact h.c7, a1, a2⟩⟩
  rw [c3, hp]; simp
/-- A flow changes. -/
theorem fl_change {w : World} {x : Nat} {f : Pace.Fl} {cr rk bt ck q : Nat} {v : Value} (h : FA w x f cr rk bt v) (hC : FC ck f cr rk) (hF : Pace.FOk q f) (hck : ck ≤ 4000000000000000000) (r b l : Nat) (hl : l ≤ 1000000) (hvx : v.ownBlock ≠ some x) :
    Calls Tryd.prog 81 #[.pointer (some ⟨x, 0, none⟩), .int .i64 (r : Int), .int .i64 (b : Int), .int .i64 (l : Int), .int .i64 (ck : Int)] w fun e w' => e = .returned (.tuple #[]) ∧ Ch w w' (fun a o => a = x ∧ 1 ≤ o ∧ o ≤ 4) ∧ FA w' x { f with rate := r, burst := b, cr := min f.cr (l * Pace.parts) } (min f.cr (l * Pace.parts)) ck bt v := by
  have hp := Pace.parts_eq
  refine (change_walk x (r : Int) (b : Int) (l : Int) (ck : Int) (f.cr : Int) w (fun w1 => Ch w w1 (fun a o => a = x ∧ (o = 3 ∨ o = 4)) ∧ FA w1 x f f.cr ck bt v) (by omega) (by omega) (fl_accrue h hC hF hck hvx) ?_).mono ?_
  · rintro w1 ⟨_, h1⟩
    exact ⟨⟨_, h1.c1⟩, ⟨_, h1.c2⟩, h1.c3, h1.fz⟩
  · rintro e w' ⟨rfl, w1, ⟨hc1, h1⟩, h2, c1, c2, c3⟩
    obtain ⟨a1, a2⟩ := h1.ch hvx h2 (fun a o q => q.1)
    have hc : ∀ o, ¬ (1 ≤ o ∧ o ≤ 3) → w'.cell? ⟨x, o, none⟩ = w1.cell? ⟨x, o, none⟩ := fun o o1 => h2.cell x o fun q => o1 q.2
    refine ⟨rfl, (hc1.trans h2).mono fun a o q => ?_, ⟨by rw [hc 0 (by omega)]; exact h1.c0, c1, c2, ?_, by rw [hc 4 (by omega)]; exact h1.c4, by rw [hc 5 (by omega)]; exact h1.c5, by rw [hc 6 (by omega)]; exact h1.c6, by rw [hc 7 (by omega)]; exact h1.c7, a1, a2⟩⟩
    · rcases q with ⟨q1, q2⟩ | ⟨q1, q2⟩ <;> exact ⟨q1, by omega, by omega⟩
    · rw [c3, hp]
      have : (min (f.cr : Int) ((l : Int) * 1000000000)) = ((min f.cr (l * 1000000000) : Nat) : Int) := by omega
      rw [this]
theorem upd_const {l : List Pace.Fl} (hnd : (l.map (·.num)).Nodup) {n : Nat} {f : Pace.Fl} (h : Pace.look l n = some f) (u : Pace.Fl → Pace.Fl) : Pace.upd l n u = Pace.upd l n (fun _ => u f) := by
  unfold Pace.upd
  apply List.map_congr_left
  intro x hx
  split
  · rename_i q
    have := Pace.look_of_mem hnd hx
    rw [q, h] at this
    injection this with this
    rw [this]
  · rfl
theorem Step.alloc {w : World} {b : Nat} {y : Lay} {s : Pace.St} {nw : Nat} {P : List Pace.Cmd} {c : Cn} (h : PM w b y s nw P c) (o : Obj) (m : Nat) : PM ((w.alloc o).drewN m) b y s nw P c ∧ Step w ((w.alloc o).drewN m) y y :=
  ⟨h.kept (O := fun _ => False) (((Fr.refl _ _).alloc o).drewN m) fun _ _ q => q, ⟨((Fr.refl _ _).alloc o).drewN m, fun _ _ e => e⟩⟩
theorem Step.alloc0 {w : World} {b : Nat} {y : Lay} {s : Pace.St} {nw : Nat} {P : List Pace.Cmd} {c : Cn} (h : PM w b y s nw P c) (o : Obj) : PM (w.alloc o) b y s nw P c ∧ Step w (w.alloc o) y y :=
  ⟨h.kept (O := fun _ => False) ((Fr.refl _ _).alloc o) fun _ _ q => q, ⟨(Fr.refl _ _).alloc o, fun _ _ e => e⟩⟩
/-- What is not the pacer's stays through a step. -/
theorem Step.keeps {w w' : World} {b : Nat} {y y' : Lay} {s : Pace.St} {nw : Nat} {P : List Pace.Cmd} {c : Cn} {w0 : World} (hS : Step w w' y y') (h : PM w0 b y s nw P c) (o : Obj) (hw : w.heap[w0.heap.size]? = some o) : w'.heap[w0.heap.size]? = some o := by
  have hlt : w0.heap.size < w.heap.size := by
    rcases Nat.lt_or_ge w0.heap.size w.heap.size with q | q
    · exact q
    · rw [Array.getElem?_eq_none q] at hw; cases hw
  rw [hS.fr.blk _ hlt (fun q => Nat.lt_irrefl _ (h.lt _ q)), hw]

/-- One flow's change, at the pacer. -/
theorem pm_flow {w w' : World} {b : Nat} {y : Lay} {s : Pace.St} {nw : Nat} {P : List Pace.Cmd} {c : Cn} (h : PM w b y s nw P c) (hnd : (s.fl.map (·.num)).Nodup) {n : Nat} {f : Pace.Fl} (hn : Pace.look s.fl n = some f) (u : Pace.Fl → Pace.Fl) (hu : (u f).num = n) {cr rk bt : Nat} {v : Value} {S : Nat → Nat → Prop} (hc : Ch w w' S) (hS : ∀ a o, S a o → a = y.B n)
    (hFA : FA w' (y.B n) (u f) cr rk bt v) (hFC : FC s.clock (u f) cr rk) (hv : v = y.V n) (hbt : bt = y.bt n) : ∃ y', PM w' b y' { s with fl := Pace.upd s.fl n u } nw P c ∧ Step w w' y y' ∧ y'.B = y.B ∧ y'.pv = y.pv := by
  obtain ⟨hfm, hfn⟩ := Pace.look_some hn
  have hBt := h.tl f hfm
  rw [hfn] at hBt
  obtain ⟨y2, hP2, hS2, b1, b2, b3, b4, b5⟩ := h.flow (f' := u f) hn hu (hc.fr2 fun a o q => .inl (by rw [hS a o q]; exact hBt)) hFA hFC (fun g hg => .inl (by rw [← hv]; exact hg)) (fun a ha q => by rw [hbt, ← q]; exact h.ak a ha)
  rw [← upd_const hnd hn u] at hP2
  exact ⟨y2, hP2, hS2, b1, b5⟩
theorem PM.at_flow {w : World} {b : Nat} {y : Lay} {s : Pace.St} {nw : Nat} {P : List Pace.Cmd} {c : Cn} (h : PM w b y s nw P c) {n : Nat} {f : Pace.Fl} (hn : Pace.look s.fl n = some f) : FA w (y.B n) f (y.cr n) (y.rk n) (y.bt n) (y.V n) ∧ FC s.clock f (y.cr n) (y.rk n) ∧ (y.V n).ownBlock ≠ some (y.B n) ∧ y.tag (y.B n) = .flow n := by
  obtain ⟨hfm, hfn⟩ := Pace.look_some hn
  have h1 := h.fl f hfm
  have h2 := h.fc f hfm
  have h3 := h.tl f hfm
  have h4 := h.vx hfm (x := y.B n)
  rw [hfn] at h1 h2 h3 h4
  exact ⟨h1, h2, h4 (by rw [h3]; simp), h3⟩
theorem pm_start {w : World} {b : Nat} {y : Lay} {s : Pace.St} {nw : Nat} {P : List Pace.Cmd} {c : Cn} (h : PM w b y s nw P c) (hnd : (s.fl.map (·.num)).Nodup) {n : Nat} {f : Pace.Fl} (hn : Pace.look s.fl n = some f) (r bu : Nat) (hb : bu ≤ 1000000) :
    Calls Tryd.prog 80 #[.pointer (some ⟨y.B n, 0, none⟩), .int .i64 (r : Int), .int .i64 (bu : Int), .int .i64 (s.clock : Int)] w fun e w' => e = .returned (.tuple #[]) ∧ ∃ y', PM w' b y' (Pace.adm1 s (.add n r bu)) nw P c ∧ Step w w' y y' ∧ y'.B = y.B ∧ y'.pv = y.pv := by
  obtain ⟨h1, h2, h3, _⟩ := h.at_flow hn
  refine (fl_start h1 r bu s.clock hb h3).mono ?_
  rintro e w' ⟨rfl, hc, hA⟩
  refine ⟨rfl, pm_flow h hnd hn (fun x => { x with rate := r, burst := bu, cr := bu * Pace.parts }) (Pace.look_some hn).2 hc (fun a o q => q.1) hA ⟨Nat.le_refl _, Nat.le_refl _, ?_⟩ rfl rfl⟩
  show bu * Pace.parts = Pace.acc (bu * Pace.parts) r (bu * Pace.parts) (s.clock - s.clock)
  rw [Nat.sub_self, Pace.acc_zero (Nat.le_refl _)]
theorem pm_change {w : World} {b : Nat} {y : Lay} {s : Pace.St} {nw : Nat} {P : List Pace.Cmd} {c : Cn} (h : PM w b y s nw P c) (hnd : (s.fl.map (·.num)).Nodup) {n : Nat} {f : Pace.Fl} (hn : Pace.look s.fl n = some f) (hF : Pace.FOk s.q f) (hck : s.clock ≤ 4000000000000000000) (r bu l : Nat) (hb : bu ≤ 1000000) (hl : l ≤ bu) :
    Calls Tryd.prog 81 #[.pointer (some ⟨y.B n, 0, none⟩), .int .i64 (r : Int), .int .i64 (bu : Int), .int .i64 (l : Int), .int .i64 (s.clock : Int)] w fun e w' => e = .returned (.tuple #[]) ∧ ∃ y', PM w' b y' { s with fl := Pace.upd s.fl n fun x => { x with rate := r, burst := bu, cr := min x.cr (l * Pace.parts) } } nw P c ∧ Step w w' y y' ∧ y'.B = y.B ∧ y'.pv = y.pv := by
  obtain ⟨h1, h2, h3, _⟩ := h.at_flow hn
  refine (fl_change h1 h2 hF hck r bu l (by omega) h3).mono ?_
  rintro e w' ⟨rfl, hc, hA⟩
  have hle : min f.cr (l * Pace.parts) ≤ bu * Pace.parts := Nat.le_trans (Nat.min_le_right _ _) (Nat.mul_le_mul_right _ hl)
  refine ⟨rfl, pm_flow h hnd hn (fun x => { x with rate := r, burst := bu, cr := min x.cr (l * Pace.parts) }) (Pace.look_some hn).2 hc (fun a o q => q.1) hA ⟨Nat.le_refl _, hle, ?_⟩ rfl rfl⟩
  show min f.cr (l * Pace.parts) = Pace.acc (min f.cr (l * Pace.parts)) r (bu * Pace.parts) (s.clock - s.clock)
  rw [Nat.sub_self, Pace.acc_zero hle]
/-- A packet is admitted. -/
theorem pm_adm {w : World} {b : Nat} {y : Lay} {s : Pace.St} {nw : Nat} {P : List Pace.Cmd} {c : Cn} (h : PM w b y s nw P c) (hnd : (s.fl.map (·.num)).Nodup) {n : Nat} {f : Pace.Fl} (hn : Pace.look s.fl n = some f) :
    ∃ y', PM (w.setCell ⟨y.B n, 6, none⟩ (.int .i64 ((f.adm : Int) + 1))) b y' { s with fl := Pace.upd s.fl n fun x => { x with adm := x.adm + 1 } } nw P c ∧ Step w (w.setCell ⟨y.B n, 6, none⟩ (.int .i64 ((f.adm : Int) + 1))) y y' ∧ y'.B = y.B ∧ y'.pv = y.pv := by
  obtain ⟨h1, h2, h3, _⟩ := h.at_flow hn
  have hc : Ch w (w.setCell ⟨y.B n, 6, none⟩ (.int .i64 ((f.adm : Int) + 1))) (fun a o => a = y.B n ∧ o = 6) := (Ch.refl w _).setCell ⟨rfl, rfl⟩ _
  obtain ⟨a1, a2⟩ := h1.ch h3 hc (fun a o q => q.1)
  have hcc : ∀ o, o ≠ 6 → (w.setCell ⟨y.B n, 6, none⟩ (.int .i64 ((f.adm : Int) + 1))).cell? ⟨y.B n, o, none⟩ = w.cell? ⟨y.B n, o, none⟩ := fun o o1 => hc.cell _ o fun q => o1 q.2
  refine pm_flow h hnd hn (fun x => { x with adm := x.adm + 1 }) (Pace.look_some hn).2 hc (fun a o q => q.1) ⟨by rw [hcc 0 (by omega)]; exact h1.c0, by rw [hcc 1 (by omega)]; exact h1.c1, by rw [hcc 2 (by omega)]; exact h1.c2, by rw [hcc 3 (by omega)]; exact h1.c3, by rw [hcc 4 (by omega)]; exact h1.c4, by rw [hcc 5 (by omega)]; exact h1.c5, ?_, by rw [hcc 7 (by omega)]; exact h1.c7, a1, a2⟩ ⟨h2.rle, h2.cle, h2.eq⟩ rfl rfl
  rw [World.cell?_setCell_same' _ _ _ (by rw [h1.c6]; rfl)]
  simp
theorem cmdsC_get (B : Nat → Nat) : ∀ (P : List Pace.Cmd) (k : Nat) (p : Pace.Cmd) (j : Nat) (v : Value), P[k]? = some p → (cmdC B p)[j]? = some v → (cmdsC B P)[k * 5 + j]? = some v
  | [], k, p, j, v, h, _ => by simp at h
  | q :: P, 0, p, j, v, h, hj => by
    simp at h; subst h
    show (cmdC B q ++ cmdsC B P)[0 * 5 + j]? = _
    have hlt : j < (cmdC B q).length := (List.getElem?_eq_some_iff.1 hj).1
    rw [Nat.zero_mul, Nat.zero_add, List.getElem?_append_left hlt]; exact hj
  | q :: P, k + 1, p, j, v, h, hj => by
    have := cmdsC_get B P k p j v (by simpa using h) hj
    show (cmdC B q ++ cmdsC B P)[(k + 1) * 5 + j]? = _
    rw [List.getElem?_append_right (by rw [cmdC_length]; omega), cmdC_length, show (k + 1) * 5 + j - 5 = k * 5 + j by omega]
    exact this

def kdC : Pace.Cmd → Int
  | .add _ _ _ => 0
  | .set _ _ _ _ => 1
  | .enq _ => 2
def rC : Pace.Cmd → Int
  | .add _ r _ => r
  | .set _ r _ _ => r
  | .enq _ => 0
def buC : Pace.Cmd → Int
  | .add _ _ b => b
  | .set _ _ b _ => b
  | .enq _ => 0
def lC : Pace.Cmd → Int
  | .add _ _ _ => 0
  | .set _ _ _ l => l
  | .enq _ => 0
theorem cmdC_eq (B : Nat → Nat) (c : Pace.Cmd) : cmdC B c = [.int .i64 (kdC c), .pointer (some ⟨B c.flow, 0, none⟩), .int .i64 (rC c), .int .i64 (buC c), .int .i64 (lC c)] := by cases c <;> rfl
def nthC (P : List Pace.Cmd) (k : Nat) : Pace.Cmd := (P[k]?).getD (.enq 0)
theorem nthC_get {P : List Pace.Cmd} {k : Nat} (h : k < P.length) : P[k]? = some (nthC P k) := by
  unfold nthC; rw [List.getElem?_eq_getElem h]; rfl
theorem take_nth {P : List Pace.Cmd} {k : Nat} (h : k < P.length) : P.take (k + 1) = P.take k ++ [nthC P k] := by
  rw [List.take_add_one, nthC_get h]; rfl
theorem drop_nth {P : List Pace.Cmd} {k : Nat} (h : k < P.length) : P.drop k = nthC P k :: P.drop (k + 1) := by
  rw [List.drop_eq_getElem_cons h]
  congr 1
  have := nthC_get h
  rw [List.getElem?_eq_getElem h] at this
  exact Option.some.inj this
theorem pi_take {s : Pace.St} {P : List Pace.Cmd} (h : Pace.PI s P) : ∀ k, k ≤ P.length → Pace.PI (Pace.admit s (P.take k)) (P.drop k)
  | 0, _ => h
  | k + 1, hk => by
    have h1 := pi_take h k (by omega)
    rw [drop_nth (by omega)] at h1
    rw [take_nth (by omega), Pace.admit_append]
    exact h1.step
theorem arms_few : ∀ (A : List Nat) (L : List Nat), A.Nodup → (∀ a ∈ A, a ∈ L) → A.length ≤ L.length
  | [], L, _, _ => Nat.zero_le _
  | a :: A, L, h, hs => by
    have h1 := List.nodup_cons.1 h
    have := arms_few A (L.erase a) h1.2 fun x hx => (List.mem_erase_of_ne (fun e => h1.1 (by rw [← e]; exact hx))).2 (hs x (List.mem_cons_of_mem _ hx))
    have ha := hs a (List.mem_cons_self ..)
    have hp := List.length_pos_of_mem ha
    rw [List.length_erase_of_mem ha] at this
    simp only [List.length_cons]
    omega
theorem Wf_few {s : Pace.St} (h : Pace.WF s) : s.A.length ≤ s.fl.length := by
  have := arms_few (s.A.map (·.num)) (s.fl.map (·.num)) h.anum fun a ha => by
    obtain ⟨x, hx, rfl⟩ := List.mem_map.1 ha
    obtain ⟨f, hf, _⟩ := h.A x hx
    obtain ⟨h1, h2⟩ := Pace.look_some hf
    exact List.mem_map.2 ⟨f, h1, h2⟩
  simpa using this
theorem live_look {s : Pace.St} {n : Nat} (h : ∃ x ∈ s.fl, x.num = n) : ∃ f, Pace.look s.fl n = some f := by
  have := Pace.look_of_live h
  cases q : Pace.look s.fl n with
  | none => exact absurd q this
  | some f => exact ⟨f, rfl⟩
theorem row_bound {w : World} {e sz n : Nat} {v : Value} {xs : List Value} (h : w.ownsRow 0 e sz v n xs) : n ≤ maxLen := by
  rcases h.2 with ⟨_, q⟩ | ⟨g, cap, cur, _, _, _, h1, h2, _⟩
  · rw [q]; exact Nat.zero_le _
  · exact Nat.le_trans h1 h2

theorem adm1_clock (s : Pace.St) (c : Pace.Cmd) : (Pace.adm1 s c).clock = s.clock := by
  cases c with
  | add f r b => rfl
  | set f r b l => exact Pace.arm_clock _ _
  | enq f =>
    unfold Pace.adm1
    simp only
    split
    · rfl
    · split
      · exact Pace.arm_clock _ _
      · rfl
theorem admit_clock (s : Pace.St) (cs : List Pace.Cmd) : (Pace.admit s cs).clock = s.clock := by
  induction cs generalizing s with
  | nil => rfl
  | cons c cs ih => exact (ih (Pace.adm1 s c)).trans (adm1_clock s c)
/-- What was asked is admitted. -/
theorem pm_admit {w : World} {b : Nat} {y : Lay} {s : Pace.St} {nw : Nat} {P : List Pace.Cmd} {c : Cn} (h : PM w b y s nw P c) (hi : Pace.PI s P) (hfew : s.fl.length ≤ 8) (hnb : ∀ x ∈ s.fl, x.num < 9223372036854775808) (hlen : P.length < 9000000000000000000) :
    Calls Tryd.prog 57 #[.pointer (some ⟨b, 0, none⟩)] w fun e w' => e = .returned (.tuple #[]) ∧ ∃ wr y', PM wr b y' (Pace.admit s P) nw P c ∧ Step w wr y y' ∧ y'.B = y.B ∧ w' = wr.setCell ⟨b, 4, none⟩ (.slice none 0 0) := by
  have hq : ∀ k, (Pace.admit s (P.take k)).clock = s.clock := fun k => admit_clock s _
  have hfl : ∀ k, (Pace.admit s (P.take k)).fl.length = s.fl.length := fun k => by have := congrArg List.length (Pace.admit_nums s (P.take k)); simpa using this
  have hnum : ∀ k, ∀ x ∈ (Pace.admit s (P.take k)).fl, x.num < 9223372036854775808 := fun k x hx => by
    have : x.num ∈ (Pace.admit s (P.take k)).fl.map (·.num) := List.mem_map.2 ⟨x, hx, rfl⟩
    rw [Pace.admit_nums] at this
    obtain ⟨z, hz, e⟩ := List.mem_map.1 this
    rw [← e]; exact hnb z hz
  obtain ⟨a3, cap3, hpv⟩ : ∃ a3 cap3, y.pv = .slice a3 P.length cap3 := by
    rcases h.rp.2 with ⟨q1, q2⟩ | ⟨g, cap, cur, q1, _⟩
    · exact ⟨none, 0, by rw [q1, q2]⟩
    · exact ⟨_, _, q1⟩
  have hstep : ∀ k, k < P.length → Pace.PI (Pace.admit s (P.take k)) (nthC P k :: P.drop (k + 1)) ∧ Pace.admit s (P.take (k + 1)) = Pace.adm1 (Pace.admit s (P.take k)) (nthC P k) := fun k hk => by
    refine ⟨by rw [← drop_nth hk]; exact pi_take hi k (by omega), ?_⟩
    rw [take_nth hk, Pace.admit_append]; rfl
  refine (admit_walk b P.length (s.clock : Int) y.pv w (fun k => kdC (nthC P k)) (fun k => rC (nthC P k)) (fun k => buC (nthC P k)) (fun k => lC (nthC P k)) (fun k => y.B (nthC P k).flow)
    (fun k wr => ∃ y', PM wr b y' (Pace.admit s (P.take k)) nw P c ∧ Step w wr y y' ∧ y'.B = y.B ∧ y'.pv = y.pv)
    (fun k wr => ∃ y', (∃ f r bu l, nthC P k = .set f r bu l ∧ PM wr b y' { Pace.admit s (P.take k) with fl := Pace.upd (Pace.admit s (P.take k)).fl f fun x => { x with rate := r, burst := bu, cr := min x.cr (l * Pace.parts) } } nw P c) ∧ Step w wr y y' ∧ y'.B = y.B ∧ y'.pv = y.pv)
    hlen ⟨y, h, Step.refl _ _, rfl, rfl⟩ h.pb.c4 a3 cap3 hpv ?_ ?_ ?_ ?_ ?_ ?_ ?_ ?_).mono ?_
  · rintro k wr ⟨y', h', _, e1, e2⟩ hk
    have hr := h'.rp
    rw [e2, e1] at hr
    obtain ⟨g, cap, hv, _⟩ := row_shape hr (by omega)
    rw [hpv] at hv
    injection hv with hv1 hv2 hv3
    refine ⟨g, hv1, ?_⟩
    rw [hpv, hv1] at hr
    have hg := nthC_get hk
    have hcm := cmdC_eq y.B (nthC P k)
    refine ⟨?_, ?_, ?_, ?_, ?_⟩
    · exact row_get hr (cmdsC_get y.B P k _ 0 _ hg (by rw [hcm]; rfl))
    · exact row_get hr (cmdsC_get y.B P k _ 1 _ hg (by rw [hcm]; rfl))
    · exact row_get hr (cmdsC_get y.B P k _ 2 _ hg (by rw [hcm]; rfl))
    · exact row_get hr (cmdsC_get y.B P k _ 3 _ hg (by rw [hcm]; rfl))
    · exact row_get hr (cmdsC_get y.B P k _ 4 _ hg (by rw [hcm]; rfl))
  · rintro k wr ⟨y', h', _, e1, e2⟩
    have := h'.pb.c1
    rw [hq k] at this
    exact this
  · intro k hk
    show kdC (nthC P k) = 0 ∨ kdC (nthC P k) = 1 ∨ kdC (nthC P k) = 2
    cases nthC P k <;> simp [kdC]
  · rintro k wr o m ⟨y', h', hs, e1, e2⟩ hk hkd
    obtain ⟨hpi, hst⟩ := hstep k hk
    obtain ⟨hA, hSA⟩ := Step.alloc h' o m
    rw [hst]
    show Calls Tryd.prog 80 #[.pointer (some ⟨y.B (nthC P k).flow, 0, none⟩), .int .i64 (rC (nthC P k)), .int .i64 (buC (nthC P k)), .int .i64 (s.clock : Int)] _ _
    have hkd' : kdC (nthC P k) = 0 := hkd
    generalize nthC P k = cm at hpi hst hkd' ⊢
    cases cm with
    | set f r bu l => cases hkd'
    | enq f => cases hkd'
    | add f r bu =>
      obtain ⟨x, hx⟩ := live_look (hpi.live _ (List.mem_cons_self ..))
      have hok := hpi.ok _ (List.mem_cons_self ..)
      have := pm_start hA hpi.wf.nums hx r bu hok.2.2
      rw [e1, hq k] at this
      refine this.mono ?_
      rintro e w' ⟨rfl, y2, h2, s2, b1, b2⟩
      exact ⟨rfl, ⟨y2, h2, hs.trans (hSA.trans s2), b1, b2.trans e2⟩, s2.keeps h' o (heap_alloc_new _ _)⟩
  · rintro k wr o m ⟨y', h', hs, e1, e2⟩ hk hkd
    obtain ⟨hpi, hst⟩ := hstep k hk
    obtain ⟨hA, hSA⟩ := Step.alloc h' o m
    show Calls Tryd.prog 81 #[.pointer (some ⟨y.B (nthC P k).flow, 0, none⟩), .int .i64 (rC (nthC P k)), .int .i64 (buC (nthC P k)), .int .i64 (lC (nthC P k)), .int .i64 (s.clock : Int)] _ _
    have hkd' : kdC (nthC P k) = 1 := hkd
    generalize nthC P k = cm at hpi hst hkd' ⊢
    cases cm with
    | add f r bu => cases hkd'
    | enq f => cases hkd'
    | set f r bu l =>
      obtain ⟨x, hx⟩ := live_look (hpi.live _ (List.mem_cons_self ..))
      have hok := hpi.ok _ (List.mem_cons_self ..)
      have := pm_change hA hpi.wf.nums hx (hpi.wf.F x (Pace.look_some hx).1) hpi.wf.clock r bu l hok.2.2.1 hok.2.2.2.2
      rw [e1] at this
      rw [← hq k]
      refine this.mono ?_
      rintro e w' ⟨rfl, y2, h2, s2, b1, b2⟩
      refine ⟨rfl, ⟨y2, ⟨f, r, bu, l, rfl, h2⟩, hs.trans (hSA.trans s2), b1, b2.trans e2⟩, ?_, s2.keeps h' o (heap_alloc_new _ _)⟩
      exact h2.pb.c1
  · rintro k wr ⟨y', ⟨f, r, bu, l, hcm, h'⟩, hs, e1, e2⟩ hk
    obtain ⟨hpi, hst⟩ := hstep k hk
    rw [hst, hcm]
    rw [hcm] at hpi
    obtain ⟨x, hx⟩ := live_look (hpi.live _ (List.mem_cons_self ..))
    have hpi' := hpi.step
    have hwf := hpi'.wf
    have hxu : Pace.look (Pace.upd (Pace.admit s (P.take k)).fl f fun x => { x with rate := r, burst := bu, cr := min x.cr (l * Pace.parts) }) f = some { x with rate := r, burst := bu, cr := min x.cr (l * Pace.parts) } := by
      rw [Pace.look_upd _ _ _ (by intro x; rfl)]
      have hxx : Pace.look (Pace.admit s (P.take k)).fl f = some x := hx
      rw [hxx]
      simp [(Pace.look_some hxx).2]
    have hmem := (Pace.look_some hxu).1
    have hfl1 : (Pace.adm1 (Pace.admit s (P.take k)) (.set f r bu l)).fl = Pace.upd (Pace.admit s (P.take k)).fl f fun x => { x with rate := r, burst := bu, cr := min x.cr (l * Pace.parts) } := Pace.arm_fl _ _
    have hqq : (Pace.adm1 (Pace.admit s (P.take k)) (.set f r bu l)).q = (Pace.admit s (P.take k)).q := Pace.arm_q _ _
    have hF := hwf.F _ (by rw [hfl1]; exact hmem)
    rw [hqq] at hF
    have hn : f < 9223372036854775808 := by have := hnum k x (Pace.look_some hx).1; rw [(Pace.look_some hx).2] at this; exact this
    have hA8 := Wf_few hpi.wf
    rw [hfl k] at hA8
    have hnd : ((Pace.upd (Pace.admit s (P.take k)).fl f fun x => { x with rate := r, burst := bu, cr := min x.cr (l * Pace.parts) }).map (·.num)).Nodup := by rw [Pace.upd_nums _ _ (by intro x; rfl)]; exact hpi.wf.nums
    have := pm_arm h' hnd hxu hF hpi.wf.q hpi.wf.clock hn (by show (Pace.admit s (P.take k)).A.length < 1000; omega)
    rw [e1] at this
    refine this.mono ?_
    rintro e w' ⟨rfl, y2, h2, s2, b1, b2, _⟩
    exact ⟨rfl, y2, h2, hs.trans s2, b1, b2.trans e2⟩
  · rintro k wr o ⟨y', h', hs, e1, e2⟩ hk hkd
    obtain ⟨hpi, hst⟩ := hstep k hk
    obtain ⟨hA, hSA⟩ := Step.alloc0 h' o
    rw [hst]
    have hkd' : kdC (nthC P k) = 2 := hkd
    show ∃ a : Nat, a < 100 ∧ (wr.alloc o).cell? ⟨y.B (nthC P k).flow, 6, none⟩ = some (.int .i64 (a : Int)) ∧ (wr.alloc o).frozen? ⟨y.B (nthC P k).flow, 6, none⟩ = false ∧
      (a = 0 → Calls Tryd.prog 82 #[.pointer (some ⟨b, 0, none⟩), .pointer (some ⟨y.B (nthC P k).flow, 0, none⟩)] ((wr.alloc o).setCell ⟨y.B (nthC P k).flow, 6, none⟩ (.int .i64 ((a : Int) + 1))) fun e w' => e = .returned (.tuple #[]) ∧ ∃ y', PM w' b y' (Pace.adm1 (Pace.admit s (P.take k)) (nthC P k)) nw P c ∧ Step w w' y y' ∧ y'.B = y.B ∧ y'.pv = y.pv) ∧
      (a ≠ 0 → ∃ y', PM ((wr.alloc o).setCell ⟨y.B (nthC P k).flow, 6, none⟩ (.int .i64 ((a : Int) + 1))) b y' (Pace.adm1 (Pace.admit s (P.take k)) (nthC P k)) nw P c ∧ Step w ((wr.alloc o).setCell ⟨y.B (nthC P k).flow, 6, none⟩ (.int .i64 ((a : Int) + 1))) y y' ∧ y'.B = y.B ∧ y'.pv = y.pv)
    generalize nthC P k = cm at hpi hst hkd' ⊢
    cases cm with
    | add f r bu => cases hkd'
    | set f r bu l => cases hkd'
    | enq f =>
      obtain ⟨x, hx⟩ := live_look (hpi.live _ (List.mem_cons_self ..))
      have hx : Pace.look (Pace.admit s (P.take k)).fl f = some x := hx
      obtain ⟨h1, h2, h3, _⟩ := hA.at_flow hx
      rw [e1] at h1
      have hFx := hpi.wf.F x (Pace.look_some hx).1
      obtain ⟨y2, hP2, s2, b1, b2⟩ := pm_adm hA hpi.wf.nums hx
      rw [e1] at hP2 s2
      refine ⟨x.adm, by have := hFx.adm; have := hFx.few; omega, h1.c6, h1.fz 6, ?_, ?_⟩
      · intro h0
        have hpi' := hpi.step
        have hadm : Pace.adm1 (Pace.admit s (P.take k)) (.enq f) = Pace.arm { Pace.admit s (P.take k) with fl := Pace.upd (Pace.admit s (P.take k)).fl f fun x => { x with adm := x.adm + 1 } } f := by
          unfold Pace.adm1
          simp only [hx, h0, if_true]
        have hfl1 : (Pace.adm1 (Pace.admit s (P.take k)) (.enq f)).fl = Pace.upd (Pace.admit s (P.take k)).fl f fun x => { x with adm := x.adm + 1 } := by rw [hadm]; exact Pace.arm_fl _ _
        have hqq : (Pace.adm1 (Pace.admit s (P.take k)) (.enq f)).q = (Pace.admit s (P.take k)).q := by rw [hadm]; exact Pace.arm_q _ _
        have hxu : Pace.look (Pace.upd (Pace.admit s (P.take k)).fl f fun x => { x with adm := x.adm + 1 }) f = some { x with adm := x.adm + 1 } := by
          rw [Pace.look_upd _ _ _ (by intro x; rfl), hx]
          simp [(Pace.look_some hx).2]
        have hF := hpi'.wf.F _ (by rw [hfl1]; exact (Pace.look_some hxu).1)
        rw [hqq] at hF
        have hn : f < 9223372036854775808 := by have := hnum k x (Pace.look_some hx).1; rw [(Pace.look_some hx).2] at this; exact this
        have hA8 := Wf_few hpi.wf
        rw [hfl k] at hA8
        have hnd : ((Pace.upd (Pace.admit s (P.take k)).fl f fun x => { x with adm := x.adm + 1 }).map (·.num)).Nodup := by rw [Pace.upd_nums _ _ (by intro x; rfl)]; exact hpi.wf.nums
        have := pm_arm hP2 hnd hxu hF hpi.wf.q hpi.wf.clock hn (by show (Pace.admit s (P.take k)).A.length < 1000; omega)
        rw [b1, e1] at this
        rw [hadm]
        refine this.mono ?_
        rintro e w' ⟨rfl, y3, h3, s3, c1, c2, _⟩
        exact ⟨rfl, y3, h3, hs.trans (hSA.trans (s2.trans s3)), c1, c2.trans (b2.trans e2)⟩
      · intro h0
        have hadm : Pace.adm1 (Pace.admit s (P.take k)) (.enq f) = { Pace.admit s (P.take k) with fl := Pace.upd (Pace.admit s (P.take k)).fl f fun x => { x with adm := x.adm + 1 } } := by
          unfold Pace.adm1
          simp only [hx, h0, if_false]
        rw [hadm]
        exact ⟨y2, hP2, hs.trans (hSA.trans s2), b1.trans e1, b2.trans e2⟩
  · rintro wr ⟨y', h', _⟩
    exact ⟨⟨_, h'.pb.c4⟩, h'.fz 4⟩
  · rintro e w' ⟨rfl, wr, ⟨y', h', hs, e1, e2⟩, rfl⟩
    rw [List.take_length] at h'
    exact ⟨rfl, wr, y', h', hs, e1, rfl⟩
end Go.Proofs.YtogdekjklbbbiaaDoor

namespace Go.Proofs.YtogdekjklbbbiaaDoor
open Go.ChangeShapes Go.WideShapes Go.ChangeAt Go.RowKit
set_option linter.unusedSimpArgs false
set_option linter.unusedVariables false

abbrev Bt := Nat × Nat × List (Int × Nat)
def pkAt (w : World) (g o : Nat) (pk : List (Int × Nat)) : Prop := ∀ j u, (pkC pk)[j]? = some u → w.cell? ⟨g, o + j, none⟩ = some u
/-- A batch of a load in memory. -/
def LB (w : World) (n0 : Nat) (N : Nat → Prop) (bv pv : Value) (L : Nat) (px : List Value) (c3 : List Value) (q : Bt) : Prop :=
  ∃ g o, c3 = [.int .i64 (q.1 : Int), .int .i64 (q.2.1 : Int), .slice (some ⟨g, o, none⟩) q.2.2.length q.2.2.length] ∧ n0 ≤ g ∧ g < w.heap.size ∧ N g ∧ g ≠ L ∧ bv.ownBlock ≠ some g ∧
    ((pv.ownBlock = some g ∧ ∀ j u, (pkC q.2.2)[j]? = some u → px[o + j]? = some u) ∨ (pv.ownBlock ≠ some g ∧ pkAt w g o q.2.2))
def total (bs : List Bt) : Nat := (bs.map (·.2.2.length)).sum
structure LDs (w : World) (L n0 : Nat) (N : Nat → Prop) (bs : List Bt) (bv pv : Value) (px : List Value) (cs : List (List Value)) : Prop where
  c0 : w.cell? ⟨L, 0, none⟩ = some bv
  c1 : w.cell? ⟨L, 1, none⟩ = some pv
  fz : ∀ o, w.frozen? ⟨L, o, none⟩ = false
  rb : w.ownsRow n0 67 3 bv bs.length cs.flatten
  rp : w.ownsRow n0 102 2 pv (total bs) px
  bp : ∀ g, bv.ownBlock = some g → pv.ownBlock ≠ some g
  bL : bv.ownBlock ≠ some L
  pL : pv.ownBlock ≠ some L
  nL : N L
  n0L : n0 ≤ L
  nb : ∀ g, bv.ownBlock = some g → N g
  np : ∀ g, pv.ownBlock = some g → N g
  all : Pace.All2 (LB w n0 N bv pv L px) cs bs
def LD (w : World) (L n0 : Nat) (N : Nat → Prop) (bs : List Bt) : Prop := ∃ bv pv px cs, LDs w L n0 N bs bv pv px cs
theorem LDs.ltL {w : World} {L n0 : Nat} {N : Nat → Prop} {bs : List Bt} {bv pv : Value} {px : List Value} {cs : List (List Value)} (h : LDs w L n0 N bs bv pv px cs) : L < w.heap.size := World.block_lt_of_cell? _ _ h.c0
theorem LD.kept {w w' : World} {L n0 : Nat} {N N' : Nat → Prop} {bs : List Bt} (h : LD w L n0 N bs) {O : Nat → Prop} (hf : Fr w w' O) (hO : ∀ k, k < w.heap.size → N k → ¬ O k) (hN : ∀ k, k < w.heap.size → N k → N' k) : LD w' L n0 N' bs := by
  obtain ⟨bv, pv, px, cs, h⟩ := h
  have hL := h.ltL
  have hk : ∀ k, k < w.heap.size → N k → w'.heap[k]? = w.heap[k]? := fun k h1 h2 => hf.blk k h1 (hO k h1 h2)
  have hLk := hk L hL h.nL
  refine ⟨bv, pv, px, cs, ⟨?_, ?_, ?_, ?_, ?_, h.bp, h.bL, h.pL, hN L hL h.nL, h.n0L, ?_, ?_, ?_⟩⟩
  · exact (World.cell?_of_block (w := w) (a := ⟨L, 0, none⟩) hLk).trans h.c0
  · exact (World.cell?_of_block (w := w) (a := ⟨L, 1, none⟩) hLk).trans h.c1
  · exact fun o => (frozen_of hLk o).trans (h.fz o)
  · exact row_kept0 h.rb fun g hg => hk g (h.rb.lt g hg).2 (h.nb g hg)
  · exact row_kept0 h.rp fun g hg => hk g (h.rp.lt g hg).2 (h.np g hg)
  · exact fun g hg => hN g (h.rb.lt g hg).2 (h.nb g hg)
  · exact fun g hg => hN g (h.rp.lt g hg).2 (h.np g hg)
  · refine h.all.mono fun c q hq => ?_
    obtain ⟨g, o, e, h1, h2, h3, h4, h5, h6⟩ := hq
    refine ⟨g, o, e, h1, Nat.lt_of_lt_of_le h2 hf.size, hN g h2 h3, h4, h5, ?_⟩
    rcases h6 with q | ⟨q1, q2⟩
    · exact .inl q
    · refine .inr ⟨q1, fun j u hu => ?_⟩
      exact (World.cell?_of_block (w := w) (a := ⟨g, o + j, none⟩) (hk g h2 h3)).trans (q2 j u hu)
theorem row_get0 {w : World} {n0 e sz n g : Nat} {v : Value} {xs : List Value} (h : w.ownsRow n0 e sz v n xs) (hg : v.ownBlock = some g) {j : Nat} {u : Value} (hu : xs[j]? = some u) : w.cell? ⟨g, j, none⟩ = some u := by
  rcases h.2 with ⟨q, _⟩ | ⟨g', cap, cur, q1, q2, q3, q4, q5, q6, q7⟩
  · rw [q] at hg; cases hg
  · rw [q1] at hg
    simp [Value.ownBlock] at hg
    subst hg
    rw [heap_cell q3, ← hu, ← q7, List.getElem?_take]
    have hlt : j < n * sz := by
      have := (List.getElem?_eq_some_iff.1 hu).1
      rw [h.1] at this; exact this
    rw [if_pos hlt]
    simp
theorem pkC_one (pk : List (Int × Nat)) : ∀ u ∈ pkC pk, u.oneCell' = true := by
  intro u hu
  simp only [pkC, List.mem_flatMap] at hu
  obtain ⟨p, _, hp⟩ := hu
  simp at hp
  rcases hp with rfl | rfl <;> rfl
theorem All2.snoc {α β : Type} {R : α → β → Prop} {l : List α} {m : List β} {a : α} {b : β} (h : Pace.All2 R l m) (hab : R a b) : Pace.All2 R (l ++ [a]) (m ++ [b]) := by
  induction h with
  | nil => exact .cons hab .nil
  | cons q _ ih => exact .cons q ih
/-- A batch is put behind the others. -/
theorem ld_add {w : World} {L n0 : Nat} {N : Nat → Prop} {bs : List Bt} (h : LD w L n0 N bs) (hN : ∀ k, w.heap.size ≤ k → N k) (hn0 : n0 ≤ w.heap.size) (hb : bs.length ≤ 100) (ht : total bs ≤ 1000) (q : Bt) (hm0 : 0 < q.2.2.length) (hm : q.2.2.length ≤ 8) (g c : Nat) (hc : pkAt w g 0 q.2.2) :
    Calls Tryd.prog 88 #[.pointer (some ⟨L, 0, none⟩), .int .i64 (q.1 : Int), .int .i64 (q.2.1 : Int), .slice (some ⟨g, 0, none⟩) q.2.2.length c] w fun e w' => e = .returned (.tuple #[]) ∧ LD w' L n0 N (bs ++ [q]) ∧ Fr w w' (fun k => N k ∧ n0 ≤ k) := by
  obtain ⟨bv, pv, px, cs, h⟩ := h
  refine (ladd_walk L n0 bs.length (total bs) q.2.2.length c (q.1 : Int) (q.2.1 : Int) bv pv cs.flatten px (pkC q.2.2) ⟨g, 0, none⟩ w h.c0 h.c1 h.fz h.rb h.rp hn0 h.bp h.bL h.pL hb ht hm0 hm (pkC_length _) ?_ (pkC_one _)).mono ?_
  · intro j u hu
    have := hc j u hu
    rw [add_lit]
    exact this
  · rintro e w' ⟨rfl, bv', pv', g', c0, c1, hg', rb, rp, k1, k2, k3, k4, k5, o1, o2, o3, o4, fz, blk⟩
    have hpvN : ∀ k, pv'.ownBlock = some k → N k := fun k hk => by
      rcases k1 with q1 | q1
      · exact h.np k (by rw [← q1]; exact hk)
      · rw [hg'] at hk; injection hk with hk; exact hN k (by omega)
    have hbvN : ∀ k, bv'.ownBlock = some k → N k := fun k hk => by
      rcases k2 with q1 | q1
      · exact h.nb k (by rw [← q1]; exact hk)
      · exact hN k (q1 k hk)
    have hg0 : n0 ≤ g' := by
      have := (rp.lt g' hg').1; exact this
    have hgL : g' < w'.heap.size := (rp.lt g' hg').2
    refine ⟨rfl, ⟨bv', pv', px ++ pkC q.2.2, cs ++ [[.int .i64 (q.1 : Int), .int .i64 (q.2.1 : Int), .slice (some ⟨g', total bs * 2, none⟩) q.2.2.length q.2.2.length]], ⟨c0, c1, fz, ?_, ?_, k3, k4, k5, h.nL, h.n0L, hbvN, hpvN, ?_⟩⟩, ⟨o1, o2, o3, o4, ?_⟩⟩
    · have e1 : (bs ++ [q]).length = bs.length + 1 := by simp
      rw [e1, List.flatten_append]
      simpa using rb
    · have e1 : total (bs ++ [q]) = total bs + q.2.2.length := by simp [total]
      rw [e1]; exact rp
    · refine All2.snoc (h.all.mono fun c3 z hz => ?_) ?_
      · obtain ⟨g1, o, e, h1, h2, h3, h4, h5, h6⟩ := hz
        have hb1 : bv'.ownBlock ≠ some g1 := fun hx => by
          rcases k2 with q1 | q1
          · exact h5 (by rw [← q1]; exact hx)
          · have := q1 g1 hx; omega
        refine ⟨g1, o, e, h1, Nat.lt_of_lt_of_le h2 o4, h3, h4, hb1, ?_⟩
        by_cases hpp : pv'.ownBlock = some g1
        · refine .inl ⟨hpp, fun j u hu => ?_⟩
          have hsame : pv.ownBlock = some g1 := by
            rcases k1 with q1 | q1
            · rw [← q1]; exact hpp
            · rw [hg'] at hpp; injection hpp with hpp; omega
          rcases h6 with ⟨_, q2⟩ | ⟨q1, _⟩
          · have hx := q2 j u hu
            rw [List.getElem?_append_left ((List.getElem?_eq_some_iff.1 hx).1)]
            exact hx
          · exact absurd hsame q1
        · refine .inr ⟨hpp, fun j u hu => ?_⟩
          have hblk := blk g1 h2 h4 h5 (fun _ => hpp)
          rw [World.cell?_of_block (w := w) (a := ⟨g1, o + j, none⟩) hblk]
          rcases h6 with ⟨q1, q2⟩ | ⟨_, q2⟩
          · exact row_get0 h.rp q1 (q2 j u hu)
          · exact q2 j u hu
      · refine ⟨g', total bs * 2, rfl, hg0, hgL, hpvN g' hg', fun e => k5 (by rw [hg', e]), fun e => k3 g' e hg', .inl ⟨hg', fun j u hu => ?_⟩⟩
        have hl := h.rp.1
        rw [List.getElem?_append_right (by omega), hl, Nat.add_sub_cancel_left]
        exact hu
    · intro k hk hn
      exact blk k hk (fun e => hn (by rw [e]; exact ⟨h.nL, h.n0L⟩)) (fun e => hn ⟨h.nb k e, (h.rb.lt k e).1⟩) (fun e => absurd ⟨h.np k e, (h.rp.lt k e).1⟩ hn)
/-- A load made anew. -/
theorem ld_new {w w' : World} {L : Nat} {pv : Value} {N : Nat → Prop} (hN : ∀ k, w.heap.size ≤ k → N k) (hg : w.grownBy w' none) (hL : w.heap.size ≤ L) (hh : w'.heap[L]? = some (.cells #[.slice none 0 0, pv] 169)) (hp : w'.ownsRow w.heap.size 102 2 pv 0 []) (hpL : pv.ownBlock ≠ some L) : LD w' L w.heap.size N [] := by
  refine ⟨.slice none 0 0, pv, [], [], ⟨?_, ?_, ?_, ⟨rfl, .inl ⟨rfl, rfl⟩⟩, hp, ?_, ?_, hpL, hN L hL, hL, ?_, ?_, .nil⟩⟩
  · rw [heap_cell hh]; rfl
  · rw [heap_cell hh]; rfl
  · intro o; simp [World.frozen?, hh]
  · intro g hg'; cases hg'
  · intro hg'; cases hg'
  · intro g hg'; cases hg'
  · intro g hg'; exact hN g (hp.lt g hg').1
end Go.Proofs.YtogdekjklbbbiaaDoor

namespace Go.Proofs.YtogdekjklbbbiaaDoor
open Go.ChangeShapes Go.WideShapes Go.ChangeAt Go.RowKit
set_option linter.unusedSimpArgs false
set_option linter.unusedVariables false

theorem World.grownBy.fr {w w' : World} {row : Option Nat} (h : w.grownBy w' row) : Fr w w' (fun k => row = some k) := ⟨h.os, h.tape, h.output, h.size, fun k hk hn => h.block k hk fun e => hn e.symm⟩
theorem GC.fr {w w' : World} {x : Nat} {S : Nat → Prop} (h : GC w w' x S) : Fr w w' (fun k => k = x) := ⟨h.os, h.tape, h.output, h.size, fun k hk hn => h.blk k hk hn⟩
theorem Fr.weak {w w' : World} {O O' : Nat → Prop} (h : Fr w w' O) (hO : ∀ k, k < w.heap.size → O k → O' k) : Fr w w' O' := ⟨h.os, h.tape, h.output, h.size, fun k hk hn => h.blk k hk fun q => hn (hO k hk q)⟩
theorem pkC_drop (l : List (Int × Nat)) : ∀ k, pkC (l.drop k) = (pkC l).drop (k * 2) := by
  induction l with
  | nil => intro k; simp [pkC]
  | cons p l ih =>
    intro k
    cases k with
    | zero => rfl
    | succ k =>
      have e : pkC (p :: l) = .int .i64 p.1 :: .int .i64 (p.2 : Int) :: pkC l := rfl
      rw [List.drop_succ_cons, ih k, e, show (k + 1) * 2 = k * 2 + 1 + 1 by omega, List.drop_succ_cons, List.drop_succ_cons]
theorem pkC_take (l : List (Int × Nat)) : ∀ k, pkC (l.take k) = (pkC l).take (k * 2) := by
  induction l with
  | nil => intro k; simp [pkC]
  | cons p l ih =>
    intro k
    cases k with
    | zero => rfl
    | succ k =>
      have e : ∀ l, pkC (p :: l) = .int .i64 p.1 :: .int .i64 (p.2 : Int) :: pkC l := fun _ => rfl
      rw [List.take_succ_cons, e, ih k, e, show (k + 1) * 2 = k * 2 + 1 + 1 by omega, List.take_succ_cons, List.take_succ_cons]
/-- A step beside a load: what lies below n0 and is not the pacer's stays. -/
structure StepN (n0 : Nat) (w w' : World) (y y' : Lay) : Prop where
  fr : Fr w w' (fun k => y.own k ∨ n0 ≤ k)
  ext : ∀ k, k < w.heap.size → y.tag k = .none → y'.tag k = .none
theorem StepN.trans {n0 : Nat} {a b c : World} {x y z : Lay} (h : StepN n0 a b x y) (k : StepN n0 b c y z) : StepN n0 a c x z :=
  ⟨h.fr.trans k.fr fun n hn q => by
    rcases q with q | q
    · by_cases e : x.tag n = .none
      · exact absurd (h.ext n hn e) q
      · exact .inl e
    · exact .inr q, fun n hn e => k.ext n (Nat.lt_of_lt_of_le hn h.fr.size) (h.ext n hn e)⟩
theorem Step.toN {n0 : Nat} {w w' : World} {y y' : Lay} (h : Step w w' y y') : StepN n0 w w' y y' := ⟨h.fr.weak fun _ _ q => .inl q, h.ext⟩

set_option maxHeartbeats 1000000 in
/-- A flow sends its batch. -/
theorem pm_send {w : World} {b : Nat} {y : Lay} {s : Pace.St} {nw : Nat} {P : List Pace.Cmd} {c : Cn} (h : PM w b y s nw P c) (hnd : (s.fl.map (·.num)).Nodup) {n : Nat} {f : Pace.Fl} (hn : Pace.look s.fl n = some f) (hF : Pace.FOk s.q f) (hck : s.clock ≤ 4000000000000000000)
    {k : Nat} (hbt : y.bt n = k) (hk0 : 0 < k) (hka : k ≤ f.adm) (hby : Pace.bytes (f.pk.take k) * Pace.parts ≤ f.cr) (hnoA : ∀ a ∈ s.A, a.num ≠ n) {L n0 : Nat} {bs : List Bt} (hL : LD w L n0 (fun k => y.tag k = .none) bs) (hn0 : n0 ≤ w.heap.size) (hbl : bs.length ≤ 100) (htl : total bs ≤ 1000) (at' : Nat) :
    Calls Tryd.prog 85 #[.pointer (some ⟨y.B n, 0, none⟩), .int .i64 (at' : Int), .int .i64 (s.clock : Int), .pointer (some ⟨L, 0, none⟩)] w fun e w' => e = .returned (.tuple #[]) ∧ ∃ y', PM w' b y' { s with fl := Pace.upd s.fl n (Pace.sentFl k) } nw P c ∧ LD w' L n0 (fun k => y'.tag k = .none) (bs ++ [(n, at', f.pk.take k)]) ∧ StepN n0 w w' y y' ∧ y'.B = y.B ∧ y'.wb = y.wb ∧ y'.wn = y.wn := by
  obtain ⟨h1, h2, h3, h4⟩ := h.at_flow hn
  obtain ⟨hfm, hfn⟩ := Pace.look_some hn
  have hp := Pace.parts_eq
  have hadm := hF.adm
  have hfew := hF.few
  have hb : f.burst ≤ 1000000 := by rcases hF.burst with ⟨q, _⟩ | ⟨_, q⟩ <;> omega
  have hcr := hF.cr
  rw [hp] at hcr
  rw [hp] at hby
  obtain ⟨g, cap, hv, _, hgl, hvg, hnc, hcm⟩ := row_shape h1.row (by omega)
  have hgx : g ≠ y.B n := fun e => h3 (by rw [hvg, e])
  have hgt : y.tag g = .pk n := by have := h.tk f hfm g (by rw [hfn]; exact hvg); rw [hfn] at this; exact this
  have hxl : y.B n < w.heap.size := h.lt _ (h.own_of h4 (by simp))
  have htk : (f.pk.take k).length = k := by rw [List.length_take]; omega
  generalize hx : y.B n = x at *
  have hvx : (y.V n).ownBlock ≠ some x := h3
  refine (send_walk x L g f.pk.length cap k (n : Int) (at' : Int) (s.clock : Int) f.cr f.adm (f.pk.take k) w
    (fun w1 => Ch w w1 (fun a o => a = x ∧ (o = 3 ∨ o = 4)) ∧ FA w1 x f f.cr s.clock (y.bt n) (y.V n))
    (fun w3 => ∃ w1 w2, (Ch w w1 (fun a o => a = x ∧ (o = 3 ∨ o = 4)) ∧ FA w1 x f f.cr s.clock (y.bt n) (y.V n)) ∧ GC w1 w2 x (fun o => o = 3) ∧ w2.cell? ⟨x, 3, none⟩ = some (.int .i64 ((f.cr - Pace.bytes (f.pk.take k) * 1000000000 : Nat) : Int)) ∧ LD w3 L n0 (fun k => y.tag k = .none) (bs ++ [(n, at', f.pk.take k)]) ∧ Fr w2 w3 (fun k => y.tag k = .none ∧ n0 ≤ k))
    (fun v' w4 => ∃ w3 m, (∃ w1 w2, (Ch w w1 (fun a o => a = x ∧ (o = 3 ∨ o = 4)) ∧ FA w1 x f f.cr s.clock (y.bt n) (y.V n)) ∧ GC w1 w2 x (fun o => o = 3) ∧ w2.cell? ⟨x, 3, none⟩ = some (.int .i64 ((f.cr - Pace.bytes (f.pk.take k) * 1000000000 : Nat) : Int)) ∧ LD w3 L n0 (fun k => y.tag k = .none) (bs ++ [(n, at', f.pk.take k)]) ∧ Fr w2 w3 (fun k => y.tag k = .none ∧ n0 ≤ k)) ∧ DP (w3.drewN m) w4 0 102 2 (f.pk.length - k) (y.V n) v' ((pkC f.pk).take (0 * 2) ++ (pkC f.pk).drop (k * 2)))
    htk (by omega) hk0 (by omega) hnc (by unfold maxLen at hcm; omega) (fun p hp' => (hF.lens p (List.mem_of_mem_take hp')).2) hby (by omega) hka (by omega) (fl_accrue h1 h2 hF hck hvx) ?_ ?_ ?_).mono ?_
  · rintro w1 ⟨hc1, hf1⟩
    have hc0 := hf1.c0
    rw [hfn] at hc0
    have hc7 := hf1.c7
    rw [hbt] at hc7
    refine ⟨hc0, hf1.c3, by rw [← hv]; exact hf1.c5, hf1.c6, hc7, hf1.fz, hgx, by rw [hc1.size]; exact hgl, fun j p hj => ?_⟩
    have hr1 := hf1.row
    rw [hv] at hr1
    have hj' : f.pk[j]? = some p := by
      rw [List.getElem?_take] at hj
      split at hj
      · exact hj
      · cases hj
    exact ⟨row_get hr1 (pkC_get f.pk j p hj').1, row_get hr1 (pkC_get f.pk j p hj').2⟩
  · rintro w1 w2 ⟨hc1, hf1⟩ hG hc3
    have hLd2 : LD w2 L n0 (fun k => y.tag k = .none) bs := by
      refine (hL.kept (O := fun k => k = x) (hc1.fr2 fun a o q => q.1) (fun k _ hk e => ?_) (fun k _ hk => hk)).kept hG.fr (fun k _ hk e => ?_) (fun k _ hk => hk)
      · rw [e, h4] at hk; cases hk
      · rw [e, h4] at hk; cases hk
    have hs12 : w.heap.size ≤ w2.heap.size := by rw [← hc1.size]; exact hG.size
    have hadd := ld_add hLd2 (fun k hk => Classical.byContradiction fun hne => by have := h.lt k hne; omega) (by omega) hbl htl (n, at', f.pk.take k) (by show 0 < (f.pk.take k).length; omega) (by show (f.pk.take k).length ≤ 8; omega) g cap (by
      intro j u hu
      have hu' : (pkC (f.pk.take k))[j]? = some u := hu
      rw [pkC_take, List.getElem?_take] at hu'
      split at hu'
      · have hr1 := row_get0 hf1.row hvg hu'
        rw [Nat.zero_add]
        exact (World.cell?_of_block (w := w1) (a := ⟨g, j, none⟩) (hG.blk g (by rw [hc1.size]; exact hgl) hgx)).trans hr1
      · cases hu')
    have hadd' : Calls Tryd.prog 88 #[.pointer (some ⟨L, 0, none⟩), .int .i64 (n : Int), .int .i64 (at' : Int), .slice (some ⟨g, 0, none⟩) (f.pk.take k).length cap] w2 _ := hadd
    rw [htk] at hadd'
    refine hadd'.mono ?_
    rintro e w3 ⟨rfl, hL3, hfr3⟩
    exact ⟨rfl, ⟨w1, w2, ⟨hc1, hf1⟩, hG, hc3, hL3, hfr3⟩, hfr3.blk x (by omega) fun q => by rw [h4] at q; cases q.1⟩
  · rintro w3 m ⟨w1, w2, ⟨hc1, hf1⟩, hG, hc3, hL3, hfr3⟩
    have hg12 : w1.heap.size ≤ w2.heap.size := hG.size
    have hgw : w3.heap[g]? = w1.heap[g]? := by
      refine (hfr3.blk g (by rw [← hc1.size] at hgl; omega) fun q => by rw [hgt] at q; cases q.1).trans ?_
      exact hG.blk g (by rw [hc1.size]; exact hgl) hgx
    rcases hf1.row.2 with ⟨q, q2⟩ | ⟨g', cap', cur, q1, q2, q3, q4, q5, q6, q7⟩
    · omega
    · rw [hv] at q1
      injection q1 with q1 q1b q1c
      injection q1 with q1
      injection q1 with q1
      subst q1
      subst q1c
      have hd := del96_walk 0 g f.pk.length cap 0 k cur (pkC f.pk) (w3.drewN m) (by show w3.heap[g]? = _; rw [hgw]; exact q3) (Nat.zero_le _) q4 q5 q6 q7 (pkC_one _) hk0 (by omega)
      rw [show ((0 : Nat) : Int) = 0 from rfl] at hd
      refine hd.mono ?_
      rintro e w4 ⟨v', rfl, hDP⟩
      rw [Nat.sub_zero, ← hv] at hDP
      obtain ⟨r1, r2, r3, r4⟩ := hDP
      rcases r1.2 with ⟨z1, _⟩ | ⟨g2, cap2, cur2, z1, z2⟩
      · rw [z1, hvg] at r2; cases r2
      · refine ⟨some ⟨g2, 0, none⟩, cap2, by rw [z1], ⟨w3, m, ⟨w1, w2, ⟨hc1, hf1⟩, hG, hc3, hL3, hfr3⟩, by rw [← z1]; exact ⟨r1, r2, r3, r4⟩⟩, ?_⟩
        have hx3 : x < w3.heap.size := by have := hfr3.size; rw [← hc1.size] at hxl; omega
        exact r3.block x hx3 fun e => hvx e.symm
  · rintro e w' ⟨rfl, v', w4, ⟨w3, m, ⟨w1, w2, ⟨hc1, hf1⟩, hG, hc3, hL3, hfr3⟩, r1, r2, r3, r4⟩, hch, c5, c6⟩
    have hs1 : w1.heap.size = w.heap.size := hc1.size
    have hs2 := hG.size
    have hs3 := hfr3.size
    have hs4 : w4.heap.size = w3.heap.size := r4
    have hx1 : w3.heap[x]? = w2.heap[x]? := hfr3.blk x (by omega) fun q => by rw [h4] at q; cases q.1
    have hx2 : w4.heap[x]? = w3.heap[x]? := r3.block x (by show x < w3.heap.size; omega) fun e => hvx e.symm
    have hx3 : w4.heap[x]? = w2.heap[x]? := hx2.trans hx1
    have hcell : ∀ o, o ≠ 5 → o ≠ 6 → w'.cell? ⟨x, o, none⟩ = w2.cell? ⟨x, o, none⟩ := fun o o5 o6 => (hch.cell x o (by omega)).trans (World.cell?_of_block (w := w2) (a := ⟨x, o, none⟩) hx3)
    have hcell1 : ∀ o, o ≠ 3 → o ≠ 5 → o ≠ 6 → w'.cell? ⟨x, o, none⟩ = w1.cell? ⟨x, o, none⟩ := fun o o3 o5 o6 => (hcell o o5 o6).trans (hG.cell o o3)
    have hr3 : Fr w3 w4 (fun k => k = g) := by
      have hq := (World.grownBy.fr r3).weak (O' := fun k => k = g) fun k _ q => by rw [hvg] at q; injection q with q; exact q.symm
      exact ⟨hq.os, hq.tape, hq.output, hq.size, hq.blk⟩
    have hfr : Fr w w' (fun k => k = x ∨ k = g ∨ (y.tag k = .none ∧ n0 ≤ k)) := by
      refine ((((hc1.fr2 (O := fun k => k = x) fun a o q => q.1).weak fun k _ q => .inl q).trans hG.fr fun k _ q => .inl q).trans hfr3 fun k _ q => .inr (.inr q)).trans hr3 (fun k _ q => .inr (.inl q)) |>.trans (hch.fr2 (O := fun k => k = x) fun a o q => q.1) fun k _ q => .inl q
    have hpkd : (pkC f.pk).take (0 * 2) ++ (pkC f.pk).drop (k * 2) = pkC (f.pk.drop k) := by rw [pkC_drop]; simp
    rw [hpkd] at r1
    have hFA : FA w' x (Pace.sentFl k f) (f.cr - Pace.bytes (f.pk.take k) * Pace.parts) s.clock (y.bt n) v' := by
      refine ⟨?_, ?_, ?_, ?_, ?_, c5, c6, ?_, ?_, ?_⟩
      · rw [hcell1 0 (by omega) (by omega) (by omega)]; exact hf1.c0
      · rw [hcell1 1 (by omega) (by omega) (by omega)]; exact hf1.c1
      · rw [hcell1 2 (by omega) (by omega) (by omega)]; exact hf1.c2
      · rw [hcell 3 (by omega) (by omega), hp]; exact hc3
      · rw [hcell1 4 (by omega) (by omega) (by omega)]; exact hf1.c4
      · rw [hcell1 7 (by omega) (by omega) (by omega)]; exact hf1.c7
      · have e1 : (Pace.sentFl k f).pk.length = f.pk.length - k := by show (f.pk.drop k).length = _; rw [List.length_drop]
        rw [e1]
        refine row_kept0 r1 fun g2 hg2 => hch.blk g2 fun o q => ?_
        rw [r2, hvg] at hg2
        injection hg2 with hg2
        exact hgx (by rw [hg2]; exact q.1)
      · intro o
        rw [hch.fz, frozen_of hx3 o, hG.fz o]
        exact hf1.fz o
    have hcl : f.cr - Pace.bytes (f.pk.take k) * Pace.parts ≤ f.burst * Pace.parts := Nat.le_trans (Nat.sub_le _ _) hF.cr
    obtain ⟨y', hP', hext, b1, b2, b3, b4, b5, b6⟩ := h.flowG (f' := Pace.sentFl k f) hn hfn hfr (fun k' q => by
      rcases q with q | q | q
      · rw [q]; exact .inl h4
      · rw [q]; exact .inr (.inl hgt)
      · exact .inr (.inr q.1)) (by rw [hx]; exact hFA) ⟨Nat.le_refl _, hcl, by
        show _ = Pace.acc _ _ _ (s.clock - s.clock)
        rw [Nat.sub_self]; exact (Pace.acc_zero hcl).symm⟩ (fun g2 hg2 => .inl (by rw [← r2]; exact hg2)) (fun a ha q => absurd q (hnoA a ha))
    rw [← upd_const hnd hn (Pace.sentFl k)] at hP'
    refine ⟨rfl, y', hP', ?_, ⟨hfr.weak fun k' _ q => ?_, hext⟩, b1, b3, b4⟩
    · have hfr2 : Fr w3 w' (fun k => k = x ∨ k = g) := by
        refine (hr3.weak (O' := fun k => k = x ∨ k = g) fun k _ q => .inr q).trans (hch.fr2 (O := fun k => k = x) fun a o q => q.1) fun k _ q => .inl q
      refine hL3.kept hfr2 (fun k' _ hk' q => ?_) (fun k' hk' hk'' => ?_)
      · rcases q with q | q
        · rw [q, h4] at hk'; cases hk'
        · rw [q, hgt] at hk'; cases hk'
      · by_cases hlt : k' < w.heap.size
        · exact hext k' hlt hk''
        · rw [b6 k' fun e => ?_]
          · exact hk''
          · rw [r2, hvg] at e
            injection e with e
            omega
    · rcases q with q | q | q
      · rw [q]; exact .inl (h.own_of h4 (by simp))
      · rw [q]; exact .inl (h.own_of hgt (by simp))
      · exact .inr q.2
end Go.Proofs.YtogdekjklbbbiaaDoor

namespace Go.Proofs.YtogdekjklbbbiaaDoor
open Go.ChangeShapes Go.WideShapes Go.ChangeAt Go.RowKit
set_option linter.unusedSimpArgs false
set_option linter.unusedVariables false

theorem rel_zero (s : Pace.St) : Pace.rel 0 s = ([], s) := rfl
theorem rel_none {s : Pace.St} (h : Pace.due s = none) (n : Nat) : Pace.rel n s = ([], s) := by
  cases n with
  | zero => rfl
  | succ n => simp only [Pace.rel, h]
/-- One more. -/
theorem rel_succ (n : Nat) : ∀ s : Pace.St, (Pace.due (Pace.rel n s).2 = none → ∀ m, Pace.rel (n + m) s = Pace.rel n s) ∧
    ∀ a, (Pace.rel n s).1.length = n → Pace.due (Pace.rel n s).2 = some a → Pace.rel (n + 1) s = ((Pace.rel n s).1 ++ [(Pace.send (Pace.rel n s).2 a).1], (Pace.send (Pace.rel n s).2 a).2) := by
  induction n with
  | zero =>
    intro s
    refine ⟨fun h m => ?_, fun a _ h => ?_⟩
    · have h : Pace.due s = none := h
      rw [rel_none h, rel_zero]
    · have h : Pace.due s = some a := h
      simp only [Pace.rel, h]
      rfl
  | succ n ih =>
    intro s
    cases q : Pace.due s with
    | none =>
      refine ⟨fun _ m => by rw [rel_none q, rel_none q], fun a h1 _ => ?_⟩
      rw [rel_none q] at h1
      simp at h1
    | some a0 =>
      have e : ∀ k, Pace.rel (k + 1) s = ((Pace.send s a0).1 :: (Pace.rel k (Pace.send s a0).2).1, (Pace.rel k (Pace.send s a0).2).2) := fun k => by simp only [Pace.rel, q]
      obtain ⟨i1, i2⟩ := ih (Pace.send s a0).2
      refine ⟨fun h m => ?_, fun a h1 h => ?_⟩
      · rw [show n + 1 + m = (n + m) + 1 by omega, e, e]
        rw [e] at h
        rw [i1 h m]
      · rw [e] at h1 h ⊢
        rw [e n]
        have h1' : (Pace.rel n (Pace.send s a0).2).1.length = n := by simpa using h1
        rw [i2 a h1' h]
        rfl
theorem rel_total {s : Pace.St} (h : Pace.PI s []) (n : Nat) : total (Pace.rel n s).1 + Pace.waits (Pace.rel n s).2.fl = Pace.waits s.fl := by
  induction n generalizing s with
  | zero => simp [Pace.rel, total]
  | succ n ih =>
    cases q : Pace.due s with
    | none => rw [rel_none q]; simp [total]
    | some a =>
      obtain ⟨q1, q2⟩ := Pace.due_some q
      obtain ⟨x, hx, hn, hl, hk, hk2, hby, hsent, hfl, h'⟩ := h.send (Pace.best_some q1).1 q2
      have e : Pace.rel (n + 1) s = ((Pace.send s a).1 :: (Pace.rel n (Pace.send s a).2).1, (Pace.rel n (Pace.send s a).2).2) := by simp only [Pace.rel, q]
      have h1 := ih h'
      have h2 := Pace.waits_upd h.wf.nums hx a.k (Nat.le_trans hk2 (h.wf.F x hx).adm)
      rw [hn, ← hfl] at h2
      rw [e]
      have h3 : total ((Pace.send s a).1 :: (Pace.rel n (Pace.send s a).2).1) = a.k + total (Pace.rel n (Pace.send s a).2).1 := by
        simp only [total, List.map_cons, List.sum_cons, hsent, List.length_take]
        have := (h.wf.F x hx).adm
        omega
      show total ((Pace.send s a).1 :: _) + Pace.waits (Pace.rel n (Pace.send s a).2).2.fl = _
      rw [h3]
      omega
theorem waits_le {l : List Pace.Fl} (h : ∀ x ∈ l, x.pk.length ≤ 8) : Pace.waits l ≤ 8 * l.length := by
  induction l with
  | nil => simp [Pace.waits]
  | cons x l ih =>
    have h1 := ih fun z hz => h z (List.mem_cons_of_mem _ hz)
    have h2 := h x (List.mem_cons_self ..)
    simp only [Pace.waits, List.map_cons, List.sum_cons, List.length_cons] at h1 ⊢
    omega
theorem rel_len8 {s : Pace.St} (h : Pace.PI s []) (hfew : s.fl.length ≤ 8) (n : Nat) : (Pace.rel n s).1.length ≤ 64 ∧ total (Pace.rel n s).1 ≤ 64 := by
  have h1 := h.rel_len n
  have h2 := rel_total h n
  have h3 := waits_le fun x hx => (h.wf.F x hx).few
  omega
theorem best_first : ∀ (l : List Pace.Ar) {a : Pace.Ar} {r : List Pace.Ar}, (∀ q ∈ l, a.at' < q.at') → (∀ q ∈ r, a.at' ≤ q.at') → Pace.best (l ++ a :: r) = some a
  | [], a, r, _, hr => by
    show Pace.best (a :: r) = some a
    unfold Pace.best
    split
    · rfl
    · rename_i b q
      have := hr b (Pace.best_some q).1
      rw [if_neg (by omega)]
  | x :: l, a, r, hl, hr => by
    show Pace.best (x :: (l ++ a :: r)) = some a
    unfold Pace.best
    rw [best_first l (fun q hq => hl q (List.mem_cons_of_mem _ hq)) hr]
    have := hl x (List.mem_cons_self ..)
    simp only
    rw [if_pos this]
theorem off_split {l r : List Pace.Ar} {a : Pace.Ar} (h : ((l ++ a :: r).map (·.num)).Nodup) : Pace.off (l ++ a :: r) a.num = l ++ r := by
  simp only [List.map_append, List.map_cons] at h
  have hl : ∀ x ∈ l, x.num ≠ a.num := fun x hx e => by
    have := (List.nodup_append.1 h).2.2 x.num (List.mem_map.2 ⟨x, hx, rfl⟩) a.num (List.mem_cons_self ..)
    exact this e
  have hr : ∀ x ∈ r, x.num ≠ a.num := fun x hx e => by
    have := (List.nodup_cons.1 (List.nodup_append.1 h).2.1).1
    exact this (by rw [← e]; exact List.mem_map.2 ⟨x, hx, rfl⟩)
  have el : Pace.off l a.num = l := by
    unfold Pace.off
    rw [List.filter_eq_self]
    intro x hx; simpa using hl x hx
  have er : Pace.off (a :: r) a.num = r := by
    unfold Pace.off
    rw [List.filter_cons, if_neg (by simp), List.filter_eq_self]
    intro x hx; simpa using hr x hx
  rw [Pace.off_append, el, er]
theorem first_due {A : List Pace.Ar} {p : Nat × Nat} {A' : List (Nat × Nat)} (h : FirstA (A.map fun a => (a.num, a.at')) p A') (hnd : (A.map (·.num)).Nodup) : ∃ a, Pace.best A = some a ∧ p = (a.num, a.at') ∧ A' = (Pace.off A a.num).map fun a => (a.num, a.at') := by
  obtain ⟨l, r, h1, h2, h3, h4⟩ := h
  obtain ⟨l0, t0, e1, e2, e3⟩ := List.map_eq_append_iff.1 h1
  obtain ⟨a, r0, e4, e5, e6⟩ := List.map_eq_cons_iff.1 e3
  subst e4; subst e1; subst e2; subst e6; subst e5
  refine ⟨a, best_first l0 (fun q hq => h3 (q.num, q.at') (List.mem_map.2 ⟨q, hq, rfl⟩)) (fun q hq => h4 (q.num, q.at') (List.mem_map.2 ⟨q, hq, rfl⟩)), rfl, ?_⟩
  rw [h2, off_split hnd, List.map_append]
/-- The pacer's own block has turned. -/
theorem PM.self {w w' : World} {b : Nat} {y : Lay} {s s' : Pace.St} {nw nw' : Nat} {P P' : List Pace.Cmd} {c c' : Cn} {pv' : Value} (h : PM w b y s nw P c) (hf : Fr w w' (fun k => k = b)) (hfz : ∀ o, w'.frozen? ⟨b, o, none⟩ = false)
    (hPB : PB w' b s'.q s'.clock nw' y.fv pv' y.wb c') (hrp : w'.ownsRow 0 136 5 pv' P'.length (cmdsC y.B P')) (hpv : pv' = y.pv ∨ pv'.ownBlock = none) (hA : s'.A = s.A) (hck : s.clock ≤ s'.clock) (hnums : s'.fl.map (·.num) = s.fl.map (·.num))
    (hfl : ∀ f' ∈ s'.fl, ∃ f ∈ s.fl, f'.num = f.num ∧ f'.rate = f.rate ∧ f'.burst = f.burst ∧ f'.adm = f.adm ∧ f'.pk = f.pk ∧ FC s'.clock f' (y.cr f.num) (y.rk f.num)) :
    ∃ y', PM w' b y' s' nw' P' c' ∧ Step w w' y y' ∧ y'.B = y.B ∧ y'.wb = y.wb ∧ y'.wn = y.wn ∧ y'.bt = y.bt ∧ y'.tag = y.tag := by
  have hk : ∀ k t, y.tag k = t → t ≠ .none → t ≠ .self → w'.heap[k]? = w.heap[k]? := fun k t e h1 h2 => hf.blk k (h.lt k (h.own_of e h1)) fun q => h2 (by rw [← e, q]; exact h.tb)
  refine ⟨{ y with pv := pv' }, ⟨h.tb, h.t0, fun k hO => Nat.lt_of_lt_of_le (h.lt k hO) hf.size, hfz, hPB, ?_, h.tf, hrp, ?_, ?_, h.two, Nat.le_trans h.wn hck, ?_, ?_, ?_, ?_, ?_⟩, ⟨hf.weak fun k _ q => by rw [q]; exact h.ow, fun _ _ e => e⟩, rfl, rfl, rfl, rfl, rfl⟩
  · have e1 : s'.fl.length = s.fl.length := by have := congrArg List.length hnums; simpa using this
    have e2 : s'.fl.map (fun f => Value.pointer (some ⟨y.B f.num, 0, none⟩)) = s.fl.map fun f => Value.pointer (some ⟨y.B f.num, 0, none⟩) := by
      have : ∀ l : List Pace.Fl, l.map (fun f => Value.pointer (some ⟨y.B f.num, 0, none⟩)) = (l.map (·.num)).map fun n => Value.pointer (some ⟨y.B n, 0, none⟩) := fun l => by rw [List.map_map]; rfl
      rw [this, this, hnums]
    show w'.ownsRow 0 132 1 y.fv s'.fl.length (s'.fl.map fun f => Value.pointer (some ⟨y.B f.num, 0, none⟩))
    rw [e1, e2]
    exact row_kept h.rf fun g hg => hk g _ (h.tf g hg) (by simp) (by simp)
  · intro g hg
    rcases hpv with q | q
    · exact h.tp g (by rw [← q]; exact hg)
    · have hg : pv'.ownBlock = some g := hg
      rw [q] at hg; cases hg
  · show WA w' y.wb y.wo y.wn (s'.A.map _)
    rw [hA]
    exact h.wa.kept hf fun k hO q => by have := h.two k hO; rw [q, h.tb] at this; cases this
  · intro f' hf'
    obtain ⟨f, hfm, e1, e2, e3, e4, e5, _⟩ := hfl f' hf'
    have := (h.fl f hfm).kept (hk _ _ (h.tl f hfm) (by simp) (by simp)) fun g hg => hk g _ (h.tk f hfm g hg) (by simp) (by simp)
    rw [e1]
    exact ⟨by rw [e1]; exact this.c0, by rw [e2]; exact this.c1, by rw [e3]; exact this.c2, this.c3, this.c4, this.c5, by rw [e4]; exact this.c6, this.c7, by rw [e5]; exact this.row, this.fz⟩
  · intro f' hf'
    obtain ⟨f, hfm, e1, e2, e3, e4, e5, e6⟩ := hfl f' hf'
    rw [e1]; exact e6
  · intro f' hf'
    obtain ⟨f, hfm, e1, _⟩ := hfl f' hf'
    rw [e1]; exact h.tl f hfm
  · intro f' hf'
    obtain ⟨f, hfm, e1, _⟩ := hfl f' hf'
    rw [e1]; exact h.tk f hfm
  · rw [hA]; exact h.ak
theorem find_congr {α : Type} (l : List α) {p q : α → Bool} (h : ∀ x ∈ l, p x = q x) : l.find? p = l.find? q := by
  induction l with
  | nil => rfl
  | cons x l ih =>
    rw [List.find?_cons, List.find?_cons, h x (List.mem_cons_self ..), ih fun z hz => h z (List.mem_cons_of_mem _ hz)]
/-- The flow of a number. -/
theorem pm_live {w : World} {b : Nat} {y : Lay} {s : Pace.St} {nw : Nat} {P : List Pace.Cmd} {c : Cn} (h : PM w b y s nw P c) (hfew : s.fl.length ≤ 8) (n : Int) :
    Calls Tryd.prog 49 #[.pointer (some ⟨b, 0, none⟩), .int .i64 n] w fun e w' => w' = w ∧ e = .returned (liveV ((s.fl.find? fun f => decide ((f.num : Int) = n)).map fun f => y.B f.num)) := by
  have hx : ∃ (inv : Nat → Nat), ∀ f ∈ s.fl, inv (y.B f.num) = f.num := by
    refine ⟨fun k => match y.tag k with | .flow m => m | _ => 0, fun f hf => ?_⟩
    simp only [h.tl f hf]
  obtain ⟨inv, hinv⟩ := hx
  obtain ⟨g, cap, hfv⟩ : ∃ g cap, (y.fv = .slice none 0 0 ∧ (s.fl.map fun f => y.B f.num) = []) ∨ y.fv = .slice (some ⟨g, 0, none⟩) (s.fl.map fun f => y.B f.num).length cap := by
    rcases h.rf.2 with ⟨q1, q2⟩ | ⟨g, cap, cur, q1, _⟩
    · exact ⟨0, 0, .inl ⟨q1, by simpa using q2⟩⟩
    · exact ⟨g, cap, .inr (by rw [q1]; simp)⟩
  refine (live_walk b g cap (s.fl.map fun f => y.B f.num) (fun x => (inv x : Int)) n y.fv w h.pb.c3 h.pb.c15 hfv (by simpa using hfew) ?_ ?_).mono ?_
  · intro k x hk
    have hrf := h.rf
    rcases hfv with ⟨_, q⟩ | q
    · rw [q] at hk; simp at hk
    · refine row_get0 hrf (by rw [q]; rfl) ?_
      rw [List.getElem?_map] at hk ⊢
      cases hz : s.fl[k]? with
      | none => rw [hz] at hk; cases hk
      | some f => rw [hz] at hk; simp at hk ⊢; exact hk
  · intro x hx
    obtain ⟨f, hf, rfl⟩ := List.mem_map.1 hx
    show w.cell? _ = some (Value.int .i64 ((inv (y.B f.num) : Nat) : Int))
    rw [hinv f hf]
    exact (h.fl f hf).c0
  · rintro e w' ⟨rfl, rfl⟩
    refine ⟨rfl, ?_⟩
    congr 2
    rw [List.find?_map]
    congr 1
    exact find_congr s.fl fun f hf => by simp only [Function.comp, hinv f hf]
theorem find_look (l : List Pace.Fl) (n : Nat) : (l.find? fun f => decide ((f.num : Int) = (n : Int))) = Pace.look l n := by
  unfold Pace.look
  congr 1
  funext f
  rw [decide_eq_decide]
  omega
end Go.Proofs.YtogdekjklbbbiaaDoor

namespace Go.Proofs.YtogdekjklbbbiaaDoor
open Go.ChangeShapes Go.WideShapes Go.ChangeAt Go.RowKit
set_option linter.unusedSimpArgs false
set_option linter.unusedVariables false

theorem send_clock (s : Pace.St) (a : Pace.Ar) : (Pace.send s a).2.clock = s.clock := Pace.arm_clock _ _
theorem send_q (s : Pace.St) (a : Pace.Ar) : (Pace.send s a).2.q = s.q := Pace.arm_q _ _
theorem rel_clock (n : Nat) (s : Pace.St) : (Pace.rel n s).2.clock = s.clock := by
  induction n generalizing s with
  | zero => rfl
  | succ n ih =>
    unfold Pace.rel
    split
    · rfl
    · exact (ih _).trans (send_clock s _)
theorem rel_flen (n : Nat) (s : Pace.St) : (Pace.rel n s).2.fl.length = s.fl.length := by have := congrArg List.length (Pace.rel_nums n s); simpa using this
/-- What holds in the midst of a release. -/
structure RI (w : World) (b : Nat) (y : Lay) (s : Pace.St) (nw : Nat) (c : Cn) (B L nb n0 : Nat) (wr : World) (yr : Lay) : Prop where
  pm : PM wr b yr (Pace.rel nb s).2 nw [] c
  ld : LD wr L n0 (fun k => yr.tag k = .none) (Pace.rel nb s).1
  len : (Pace.rel nb s).1.length = nb
  le : nb ≤ B
  st : StepN n0 w wr y yr
  bb : yr.B = y.B
  wb : yr.wb = y.wb
  wn : yr.wn = s.clock
  n0 : w.heap.size ≤ n0 ∧ n0 ≤ wr.heap.size
def RR (w : World) (b : Nat) (y : Lay) (s : Pace.St) (nw : Nat) (c : Cn) (B L nb gk : Nat) (wr : World) : Prop := gk = 64 - nb ∧ ∃ n0 yr, RI w b y s nw c B L nb n0 wr yr
def RE (w : World) (b : Nat) (y : Lay) (s : Pace.St) (nw : Nat) (c : Cn) (B L nb : Nat) (wr : World) : Prop := Pace.rel B s = Pace.rel nb s ∧ ∃ n0 yr, RI w b y s nw c B L nb n0 wr yr
/-- A batch is taken out of the wheel. -/
def RT (w : World) (b : Nat) (y : Lay) (s : Pace.St) (nw : Nat) (c : Cn) (B L nb gk num at' : Nat) (wr : World) : Prop := gk = 64 - nb ∧ nb + 1 ≤ B ∧ (Pace.rel nb s).1.length = nb ∧ ∃ n0 yr a, Pace.due (Pace.rel nb s).2 = some a ∧ num = a.num ∧ at' = a.at' ∧
  PM wr b yr { (Pace.rel nb s).2 with A := Pace.off (Pace.rel nb s).2.A a.num } nw [] c ∧ yr.bt a.num = a.k ∧ LD wr L n0 (fun k => yr.tag k = .none) (Pace.rel nb s).1 ∧ StepN n0 w wr y yr ∧ yr.B = y.B ∧ yr.wb = y.wb ∧ yr.wn = s.clock ∧ w.heap.size ≤ n0 ∧ n0 ≤ wr.heap.size
/-- It is sent. -/
def RS (w : World) (b : Nat) (y : Lay) (s : Pace.St) (nw : Nat) (c : Cn) (B L nb gk x : Nat) (wr : World) : Prop := gk = 64 - nb ∧ nb + 1 ≤ B ∧ (Pace.rel nb s).1.length = nb ∧ ∃ n0 yr a, Pace.due (Pace.rel nb s).2 = some a ∧ x = y.B a.num ∧
  PM wr b yr { (Pace.rel nb s).2 with fl := Pace.upd (Pace.rel nb s).2.fl a.num (Pace.sentFl a.k), A := Pace.off (Pace.rel nb s).2.A a.num } nw [] c ∧ LD wr L n0 (fun k => yr.tag k = .none) ((Pace.rel nb s).1 ++ [(Pace.send (Pace.rel nb s).2 a).1]) ∧ StepN n0 w wr y yr ∧ yr.B = y.B ∧ yr.wb = y.wb ∧ yr.wn = s.clock ∧ w.heap.size ≤ n0 ∧ n0 ≤ wr.heap.size

/-- Step by step: the first of those that are due. -/
theorem pm_first {w : World} {b : Nat} {y : Lay} {s : Pace.St} {nw : Nat} {c : Cn} {B L nb gk : Nat} {wr : World} (hi : Pace.PI s []) (h : RR w b y s nw c B L nb gk wr) (hlt : nb < B) :
    Calls Tryd.prog 84 #[.pointer (some ⟨y.wb, 0, none⟩)] wr fun e w' => (e = .returned (.tuple #[.int .i64 0, .int .i64 0, .bool false]) ∧ RE w b y s nw c B L nb w') ∨ ∃ num at' : Nat, e = .returned (.tuple #[.int .i64 (num : Int), .int .i64 (at' : Int), .bool true]) ∧ RT w b y s nw c B L nb gk num at' w' := by
  obtain ⟨hgk, n0, yr, hr⟩ := h
  have hwa := hr.pm.wa
  rw [hr.wb, hr.wn] at hwa
  have hwf := (hi.rel nb).wf
  refine (wa_first hwa).mono ?_
  rintro e w' ⟨hf, ⟨rfl, hno, hw'⟩ | ⟨p, A', rfl, hfst, hle, hw'⟩⟩
  · left
    rw [← hr.wb] at hw'
    obtain ⟨y1, hP, hS, e1, e2, e3, e4, e5⟩ := hr.pm.wheel hf hw' (fun k q => .inl q) (by rw [rel_clock]; exact Nat.le_refl _) hr.pm.ak
    have hdue : Pace.due (Pace.rel nb s).2 = none := by
      unfold Pace.due
      cases q : Pace.best (Pace.rel nb s).2.A with
      | none => rfl
      | some a =>
        have h1 := hno (a.num, a.at') (List.mem_map.2 ⟨a, (Pace.best_some q).1, rfl⟩)
        have h2 := rel_clock nb s
        simp only [Option.filter]
        rw [if_neg (by simp; omega)]
    refine ⟨rfl, ?_, n0, y1, ⟨hP, ?_, hr.len, hr.le, hr.st.trans hS.toN, e1.trans hr.bb, e3.trans hr.wb, e4, hr.n0.1, Nat.le_trans hr.n0.2 hS.fr.size⟩⟩
    · have := (rel_succ nb s).1 hdue (B - nb)
      rw [show nb + (B - nb) = B by omega] at this
      exact this
    · exact hr.ld.kept hS.fr (fun k _ hk q => q hk) (fun k hk hk' => hS.ext k hk hk')
  · right
    obtain ⟨a, hb, rfl, rfl⟩ := first_due hfst hwf.anum
    have hle : a.at' ≤ s.clock := hle
    have hdue : Pace.due (Pace.rel nb s).2 = some a := by
      unfold Pace.due
      rw [hb]
      have h2 := rel_clock nb s
      simp only [Option.filter]
      rw [if_pos (by simp; omega)]
    rw [← hr.wb] at hw'
    obtain ⟨y1, hP, hS, e1, e2, e3, e4, e5⟩ := hr.pm.wheel hf hw' (fun k q => .inl q) (by rw [rel_clock]; exact Nat.le_refl _) (fun x hx => hr.pm.ak x (Pace.mem_off.1 hx).1)
    refine ⟨a.num, a.at', rfl, hgk, by omega, hr.len, n0, y1, a, hdue, rfl, rfl, hP, ?_, ?_, hr.st.trans hS.toN, e1.trans hr.bb, e3.trans hr.wb, e4, hr.n0.1, Nat.le_trans hr.n0.2 hS.fr.size⟩
    · rw [e2]; exact hr.pm.ak a (Pace.best_some hb).1
    · exact hr.ld.kept hS.fr (fun k _ hk q => q hk) (fun k hk hk' => hS.ext k hk hk')
/-- It is sent. -/
theorem pm_out {w : World} {b : Nat} {y : Lay} {s : Pace.St} {nw : Nat} {c : Cn} {B L nb gk num at' : Nat} {w2 : World} (hi : Pace.PI s []) (hfew : s.fl.length ≤ 8) (h : RT w b y s nw c B L nb gk num at' w2) :
    ∃ x, (Calls Tryd.prog 49 #[.pointer (some ⟨b, 0, none⟩), .int .i64 (num : Int)] w2 fun e w' => w' = w2 ∧ e = .returned (liveV (some x))) ∧ w2.cell? ⟨b, 1, none⟩ = some (.int .i64 (s.clock : Int)) ∧
      Calls Tryd.prog 85 #[.pointer (some ⟨x, 0, none⟩), .int .i64 (at' : Int), .int .i64 (s.clock : Int), .pointer (some ⟨L, 0, none⟩)] w2 fun e w' => e = .returned (.tuple #[]) ∧ RS w b y s nw c B L nb gk x w' := by
  obtain ⟨hgk, hnb, hlen, n0, yr, a, hdue, rfl, rfl, hP, hbt, hL, hS, e1, e2, e3, hn1, hn2⟩ := h
  obtain ⟨q1, q2⟩ := Pace.due_some hdue
  have hpi := hi.rel nb
  obtain ⟨x, hx, hxn, hlk, hk0, hka, hby, hsent, hfl, hpi'⟩ := hpi.send (Pace.best_some q1).1 q2
  have hcl := rel_clock nb s
  have h8 := rel_len8 hi hfew nb
  refine ⟨y.B a.num, ?_, ?_, ?_⟩
  · have := pm_live hP (by show (Pace.rel nb s).2.fl.length ≤ 8; rw [rel_flen]; exact hfew) ((a.num : Nat) : Int)
    refine this.mono ?_
    rintro e w' ⟨rfl, rfl⟩
    refine ⟨rfl, ?_⟩
    have hlk' : Pace.look ({ (Pace.rel nb s).2 with A := Pace.off (Pace.rel nb s).2.A a.num } : Pace.St).fl a.num = some x := hlk
    rw [find_look, hlk', Option.map_some, hxn, e1]
  · have := hP.pb.c1
    have h2 : ({ (Pace.rel nb s).2 with A := Pace.off (Pace.rel nb s).2.A a.num } : Pace.St).clock = s.clock := hcl
    rw [h2] at this
    exact this
  · have := pm_send hP hpi.wf.nums hlk (hpi.wf.F x hx) hpi.wf.clock hbt hk0 hka hby (fun z hz => (Pace.mem_off.1 hz).2) hL hn2 (by omega) (by omega) a.at'
    rw [e1] at this
    have h2 : ({ (Pace.rel nb s).2 with A := Pace.off (Pace.rel nb s).2.A a.num } : Pace.St).clock = s.clock := hcl
    rw [h2] at this
    refine this.mono ?_
    rintro e w' ⟨rfl, y', hP', hL', hS', b1, b2, b3⟩
    refine ⟨rfl, hgk, hnb, hlen, n0, y', a, hdue, rfl, ?_, ?_, hS.trans hS', b1, b2.trans e2, b3.trans e3, hn1, Nat.le_trans hn2 hS'.fr.size⟩
    · rw [← h2] at hP'
      exact hP'
    · rw [hsent]; exact hL'
/-- And armed anew. -/
theorem pm_again {w : World} {b : Nat} {y : Lay} {s : Pace.St} {nw : Nat} {c : Cn} {B L nb gk x : Nat} {w3 : World} (hi : Pace.PI s []) (hfew : s.fl.length ≤ 8) (hnb : ∀ x ∈ s.fl, x.num < 9223372036854775808) (h : RS w b y s nw c B L nb gk x w3) :
    Calls Tryd.prog 82 #[.pointer (some ⟨b, 0, none⟩), .pointer (some ⟨x, 0, none⟩)] w3 fun e w' => e = .returned (.tuple #[]) ∧ ∃ gk', gk' < gk ∧ RR w b y s nw c B L (nb + 1) gk' w' := by
  obtain ⟨hgk, hnB, hlen, n0, yr, a, hdue, rfl, hP, hL, hS, e1, e2, e3, hn1, hn2⟩ := h
  obtain ⟨q1, q2⟩ := Pace.due_some hdue
  have hpi := hi.rel nb
  obtain ⟨x, hx, hxn, hlk, hk0, hka, hby, hsent, hfl, hpi'⟩ := hpi.send (Pace.best_some q1).1 q2
  have hrel := (rel_succ nb s).2 a hlen hdue
  have h8 := rel_len8 hi hfew (nb + 1)
  have hlen1 : (Pace.rel (nb + 1) s).1.length = nb + 1 := by rw [hrel]; simp [hlen]
  have hxu : Pace.look (Pace.upd (Pace.rel nb s).2.fl a.num (Pace.sentFl a.k)) a.num = some (Pace.sentFl a.k x) := by
    rw [Pace.look_upd _ _ _ (by intro x; rfl), hlk]
    simp [hxn]
  have hF := hpi'.wf.F (Pace.sentFl a.k x) (by rw [hfl]; exact (Pace.look_some hxu).1)
  rw [send_q] at hF
  have hnd : ((Pace.upd (Pace.rel nb s).2.fl a.num (Pace.sentFl a.k)).map (·.num)).Nodup := by rw [Pace.upd_nums _ _ (by intro x; rfl)]; exact hpi.wf.nums
  have hA8 := Wf_few hpi.wf
  rw [rel_flen] at hA8
  have hAl : (Pace.off (Pace.rel nb s).2.A a.num).length ≤ (Pace.rel nb s).2.A.length := List.length_filter_le _ _
  have hnn : a.num < 9223372036854775808 := by
    have : x.num ∈ (Pace.rel nb s).2.fl.map (·.num) := List.mem_map.2 ⟨x, hx, rfl⟩
    rw [Pace.rel_nums] at this
    obtain ⟨z, hz, e⟩ := List.mem_map.1 this
    rw [← hxn, ← e]; exact hnb z hz
  have := pm_arm hP hnd hxu hF hpi.wf.q hpi.wf.clock hnn (by show (Pace.off (Pace.rel nb s).2.A a.num).length < 1000; omega)
  rw [e1] at this
  refine this.mono ?_
  rintro e w' ⟨rfl, y', hP', hS', b1, b2, b3, b4⟩
  refine ⟨rfl, 64 - (nb + 1), by omega, rfl, n0, y', ⟨?_, ?_, hlen1, hnB, hS.trans hS'.toN, b1, b3.trans e2, b4.trans e3, hn1, Nat.le_trans hn2 hS'.fr.size⟩⟩
  · rw [hrel]; exact hP'
  · rw [hrel]; exact hL.kept hS'.fr (fun k _ hk q => q hk) (fun k hk hk' => hS'.ext k hk hk')
end Go.Proofs.YtogdekjklbbbiaaDoor

namespace Go.Proofs.YtogdekjklbbbiaaDoor
open Go.ChangeShapes Go.WideShapes Go.ChangeAt Go.RowKit
set_option linter.unusedSimpArgs false
set_option linter.unusedVariables false

/-- A batch of an answer. -/
def BAt (w : World) (n0 : Nat) (N : Nat → Prop) (v : Value) (c3 : List Value) (q : Bt) : Prop :=
  ∃ g o, c3 = [.int .i64 (q.1 : Int), .int .i64 (q.2.1 : Int), .slice (some ⟨g, o, none⟩) q.2.2.length q.2.2.length] ∧ n0 ≤ g ∧ g < w.heap.size ∧ N g ∧ pkAt w g o q.2.2 ∧ v.ownBlock ≠ some g
/-- An answer of batches. -/
structure BA (w : World) (n0 : Nat) (N : Nat → Prop) (bs : List Bt) (v : Value) : Prop where
  row : ∃ cs, w.ownsRow n0 67 3 v bs.length cs.flatten ∧ Pace.All2 (BAt w n0 N v) cs bs
  nn : ∀ g, v.ownBlock = some g → N g
theorem LDs.ba {w : World} {L n0 : Nat} {N : Nat → Prop} {bs : List Bt} {bv pv : Value} {px : List Value} {cs : List (List Value)} (h : LDs w L n0 N bs bv pv px cs) : BA w n0 N bs bv := by
  refine ⟨⟨cs, h.rb, h.all.mono fun c q hq => ?_⟩, h.nb⟩
  obtain ⟨g, o, e, h1, h2, h3, h4, h5, h6⟩ := hq
  refine ⟨g, o, e, h1, h2, h3, fun j u hu => ?_, h5⟩
  rcases h6 with ⟨q1, q2⟩ | ⟨q1, q2⟩
  · exact row_get0 h.rp q1 (q2 j u hu)
  · exact q2 j u hu
theorem BA.kept {w w' : World} {n0 : Nat} {N N' : Nat → Prop} {bs : List Bt} {v : Value} (h : BA w n0 N bs v) {O : Nat → Prop} (hf : Fr w w' O) (hO : ∀ k, k < w.heap.size → n0 ≤ k → N k → ¬ O k) (hN : ∀ k, k < w.heap.size → N k → N' k) : BA w' n0 N' bs v := by
  obtain ⟨⟨cs, hr, ha⟩, hn⟩ := h
  have hk : ∀ k, k < w.heap.size → n0 ≤ k → N k → w'.heap[k]? = w.heap[k]? := fun k h1 h0 h2 => hf.blk k h1 (hO k h1 h0 h2)
  refine ⟨⟨cs, row_kept0 hr fun g hg => hk g (hr.lt g hg).2 (hr.lt g hg).1 (hn g hg), ha.mono fun c q hq => ?_⟩, fun g hg => hN g (hr.lt g hg).2 (hn g hg)⟩
  obtain ⟨g, o, e, h1, h2, h3, h4, h5⟩ := hq
  exact ⟨g, o, e, h1, Nat.lt_of_lt_of_le h2 hf.size, hN g h2 h3, fun j u hu => (World.cell?_of_block (w := w) (a := ⟨g, o + j, none⟩) (hk g h2 h1 h3)).trans (h4 j u hu), h5⟩
theorem row_len {w : World} {n0 e sz n : Nat} {v : Value} {xs : List Value} (h : w.ownsRow n0 e sz v n xs) : ∃ a c, v = .slice a n c := by
  rcases h.2 with ⟨q, q2⟩ | ⟨g, cap, cur, q, _⟩
  · exact ⟨none, 0, by rw [q, q2]⟩
  · exact ⟨_, cap, q⟩
theorem PB.sent {w w' : World} {b q ck nw : Nat} {fv pv : Value} {wb : Nat} {c : Cn} (h : PB w b q ck nw fv pv wb c) (hc : Ch w w' (fun a o => a = b ∧ o = 8)) {n : Nat} (h8 : w'.cell? ⟨b, 8, none⟩ = some (.int .i64 (n : Int))) : PB w' b q ck nw fv pv wb { c with sent := n } := by
  have hcc : ∀ o, o ≠ 8 → w'.cell? ⟨b, o, none⟩ = w.cell? ⟨b, o, none⟩ := fun o ho => hc.cell b o fun q => ho q.2
  exact ⟨by rw [hcc _ (by omega)]; exact h.c0, by rw [hcc _ (by omega)]; exact h.c1, by rw [hcc _ (by omega)]; exact h.c2, by rw [hcc _ (by omega)]; exact h.c3, by rw [hcc _ (by omega)]; exact h.c4, by rw [hcc _ (by omega)]; exact h.c5, by rw [hcc _ (by omega)]; exact h.c6, by rw [hcc _ (by omega)]; exact h.c7, h8, by rw [hcc _ (by omega)]; exact h.c9, by rw [hcc _ (by omega)]; exact h.c10, by rw [hcc _ (by omega)]; exact h.c11, by rw [hcc _ (by omega)]; exact h.c12, by rw [hcc _ (by omega)]; exact h.c13, by rw [hcc _ (by omega)]; exact h.c14, by rw [hcc _ (by omega)]; exact h.c15⟩

/-- What is due is released. -/
theorem pm_release {w : World} {b : Nat} {y : Lay} {s : Pace.St} {nw : Nat} {c : Cn} (h : PM w b y s nw [] c) (hi : Pace.PI s []) (hfew : s.fl.length ≤ 8) (hnb : ∀ x ∈ s.fl, x.num < 9223372036854775808) (hT : TabW w) (hc : c.sent < 8000000000000000000) (budget : Int) :
    Calls Tryd.prog 58 #[.pointer (some ⟨b, 0, none⟩), .int .i64 budget] w fun e w' => ∃ v, e = .returned v ∧ ∃ n0 y', PM w' b y' (Pace.rel budget.toNat s).2 nw [] { c with sent := c.sent + total (Pace.rel budget.toNat s).1 } ∧ BA w' n0 (fun k => y'.tag k = .none) (Pace.rel budget.toNat s).1 v ∧ StepN n0 w w' y y' ∧ w.heap.size ≤ n0 ∧ y'.B = y.B := by
  have hck := hi.wf.clock
  refine (release_walk b y.wb (s.clock : Int) budget w
    (fun w1 => ∃ y1, PM w1 b y1 s nw [] c ∧ Step w w1 y y1 ∧ y1.B = y.B ∧ y1.wb = y.wb ∧ y1.wn = s.clock)
    (fun L nb gk wr => RR w b y s nw c budget.toNat L nb gk wr)
    (fun L nb gk num at' wr => RT w b y s nw c budget.toNat L nb gk num at' wr)
    (fun L nb gk x wr => RS w b y s nw c budget.toNat L nb gk x wr)
    (fun L nb wr => RE w b y s nw c budget.toNat L nb wr)
    ⟨h.pb.c5, h.pb.c1⟩ ?_ ?_ ?_ ?_ ?_ ?_ ?_ ?_ ?_).mono ?_
  · intro m
    have hd := h.drewN m
    have hTd : TabW (w.drewN m) := hT
    refine (wa_turn hd.wa hTd (fun q => by have := h.two 0 q; rw [h.t0] at this; cases this) (s.clock : Int) (by omega)).mono ?_
    rintro e w' ⟨rfl, N, hN, hf, hw'⟩
    have hNe : N = s.clock := by have := h.wn; omega
    subst hNe
    obtain ⟨y1, hP, hS, e1, e2, e3, e4, e5⟩ := hd.wheel hf hw' (fun k q => .inl q) (Nat.le_refl _) hd.ak
    exact ⟨rfl, y1, hP, ⟨⟨hS.fr.os, hS.fr.tape, hS.fr.output, hS.fr.size, hS.fr.blk⟩, hS.ext⟩, e1, e3, e4⟩
  · rintro w1 ⟨y1, h1, hs, e1, e2, e3⟩
    exact ⟨by rw [← e2]; exact h1.pb.c5, h1.pb.c1⟩
  · rintro w1 ⟨y1, h1, hs, e1, e2, e3⟩
    obtain ⟨a3, cap3, hfv⟩ := row_len h1.rf
    have hc3 := h1.pb.c3
    rw [hfv] at hc3
    have hx : ∃ (len : Nat → Nat), ∀ f ∈ s.fl, len (y1.B f.num) = f.pk.length := by
      refine ⟨fun k => match y1.tag k with | .flow m => ((Pace.look s.fl m).map (·.pk.length)).getD 0 | _ => 0, fun f hf => ?_⟩
      simp only [h1.tl f hf, Pace.look_of_mem hi.wf.nums hf]
      rfl
    obtain ⟨len, hlen⟩ := hx
    refine (newload_walk b (s.fl.map fun f => y1.B f.num) len w1 a3 cap3 (by rw [List.length_map]; exact hc3) (by simpa using hfew) ?_ ?_ ?_).mono ?_
    · intro x hx
      obtain ⟨f, hf, rfl⟩ := List.mem_map.1 hx
      rw [hlen f hf]; exact (hi.wf.F f hf).few
    · intro k x hk
      have hz : (s.fl.map fun f => Value.pointer (some ⟨y1.B f.num, 0, none⟩))[k]? = some (.pointer (some ⟨x, 0, none⟩)) := by
        rw [List.getElem?_map] at hk ⊢
        cases hz : s.fl[k]? with
        | none => rw [hz] at hk; cases hk
        | some f => rw [hz] at hk; simp at hk ⊢; exact hk
      have hpos : 0 < s.fl.length := by
        have := (List.getElem?_eq_some_iff.1 hz).1
        rw [List.length_map] at this; omega
      obtain ⟨g, cap, hv, _, _, hvg, _⟩ := row_shape h1.rf hpos
      refine ⟨g, ?_, row_get0 h1.rf hvg hz⟩
      rw [hfv] at hv
      injection hv
    · intro x hx
      obtain ⟨f, hf, rfl⟩ := List.mem_map.1 hx
      have hF := h1.fl f hf
      obtain ⟨a, c5, hv⟩ := row_len hF.row
      exact ⟨a, c5, by rw [hlen f hf, ← hv]; exact hF.c5⟩
    · rintro e w' ⟨L, pv, rfl, hg, hL, hh, hp, hpL⟩
      have hfr : Fr w1 w' (fun _ => False) := (World.grownBy.fr hg).weak fun k _ q => by cases q
      refine ⟨L, 64, rfl, rfl, w1.heap.size, y1, ⟨h1.kept hfr (fun _ _ q => q), ?_, rfl, Nat.zero_le _, hs.toN.trans ⟨hfr.weak fun _ _ q => q.elim, fun _ _ e => e⟩, e1, e2, e3, hs.fr.size, hfr.size⟩⟩
      exact ld_new (fun k hk => Classical.byContradiction fun hne => by have := h1.lt k hne; omega) hg hL hh hp hpL
  · rintro L nb gk wr ⟨_, n0, yr, hr⟩
    have h8 := rel_len8 hi hfew nb
    have hl := hr.len
    obtain ⟨bv, pv, px, cs, hld⟩ := hr.ld
    obtain ⟨a, cc, hbv⟩ := row_len hld.rb
    refine ⟨by omega, ⟨a, cc, ?_⟩, by rw [← hr.wb]; exact hr.pm.pb.c5, ?_⟩
    · rw [hld.c0, hbv, hl]
    · have := hr.pm.pb.c1
      rw [rel_clock] at this
      exact this
  · intro L nb gk wr hR hlt
    exact pm_first hi hR (by omega)
  · intro L nb gk num at' w2 hR
    exact pm_out hi hfew hR
  · intro L nb gk x w3 hR
    exact pm_again hi hfew hnb hR
  · rintro L nb gk wr ⟨_, n0, yr, hr⟩ hle
    have := hr.le
    refine ⟨?_, n0, yr, hr⟩
    rw [show budget.toNat = nb by omega]
  · rintro L nb wr ⟨_, n0, yr, hr⟩
    have h8 := rel_len8 hi hfew nb
    have hl := hr.len
    obtain ⟨bv, pv, px, cs, hld⟩ := hr.ld
    obtain ⟨a, cc, hbv⟩ := row_len hld.rb
    obtain ⟨a1, c1, hpv⟩ := row_len hld.rp
    refine ⟨c.sent, total (Pace.rel nb s).1, a, cc, a1, c1, by rw [hld.c0, hbv, hl], by rw [hld.c1, hpv], by omega, by omega, hr.pm.pb.c8, hr.pm.fz 8, fun e => ?_⟩
    have h1 := hld.nL
    have h2 := hr.pm.tb
    rw [← e, h2] at h1
    cases h1
  · rintro e w' ⟨v, rfl, L, nb, wr, s0, np, a1, c1, ⟨hrel, n0, yr, hr⟩, hL1, hb8, hch, h8, hL0⟩
    obtain ⟨bv, pv, px, cs, hld⟩ := hr.ld
    obtain ⟨a1', c1', hpv⟩ := row_len hld.rp
    have hnp : np = total (Pace.rel nb s).1 := by
      have := hld.c1
      rw [hL1, hpv] at this
      injection this with this
      injection this
    have hs0 : s0 = c.sent := by
      have := hr.pm.pb.c8
      rw [hb8] at this
      injection this with this
      injection this with _ this
      omega
    have hv : v = bv := by
      have := hld.c0
      rw [hL0] at this
      injection this
    subst hnp; subst hs0; subst hv
    rw [hrel]
    have hfr : Fr wr w' (fun k => k = b) := hch.fr2 fun a o q => q.1
    obtain ⟨y', hP, hS, e1, e2, e3, e4, e5⟩ := hr.pm.self (s' := (Pace.rel nb s).2) (P' := []) hfr (fun o => (hch.fz _).trans (hr.pm.fz o)) (hr.pm.pb.sent hch h8) (row_kept hr.pm.rp fun g hg => hch.blk g fun o q => by
        have := hr.pm.tp g hg
        rw [q.1, hr.pm.tb] at this; cases this) (.inl rfl) rfl (Nat.le_refl _) rfl (fun f hf => ⟨f, hf, rfl, rfl, rfl, rfl, rfl, hr.pm.fc f hf⟩)
    refine ⟨v, rfl, n0, y', hP, ?_, hr.st.trans hS.toN, hr.n0.1, e1.trans hr.bb⟩
    exact hld.ba.kept hS.fr (fun k _ _ hk q => q hk) (fun k hk hk' => hS.ext k hk hk')
end Go.Proofs.YtogdekjklbbbiaaDoor

namespace Go.Proofs.YtogdekjklbbbiaaDoor
open Go.ChangeShapes Go.WideShapes Go.ChangeAt Go.RowKit
set_option linter.unusedSimpArgs false
set_option linter.unusedVariables false

/-! ### What waits to be admitted is little -/
def isAdd (f : Nat) : Pace.Cmd → Bool
  | .add g _ _ => g == f
  | _ => false
def Shrt (P : List Pace.Cmd) : Prop := ∀ f, P.countP (Pace.isSet f) ≤ 1
theorem adds_one {P : List Pace.Cmd} (h : Pace.AddFirst P) (f : Nat) : P.countP (isAdd f) ≤ 1 := by
  induction P with
  | nil => simp
  | cons c P ih =>
    have h' := List.pairwise_cons.1 h
    by_cases q : isAdd f c = true
    · have hz : P.countP (isAdd f) = 0 := by
        rw [List.countP_eq_zero]
        intro d hd e
        cases d with
        | add g r b =>
          have eg : g = f := by simpa [isAdd] using e
          subst eg
          cases c with
          | add g' r' b' =>
            have eg' : g' = g := by simpa [isAdd] using q
            exact h'.1 _ hd g r b rfl eg'
          | set _ _ _ _ => simp [isAdd] at q
          | enq _ => simp [isAdd] at q
        | set _ _ _ _ => simp [isAdd] at e
        | enq _ => simp [isAdd] at e
      rw [List.countP_cons, hz]
      split <;> omega
    · rw [List.countP_cons, if_neg q]
      exact ih h'.2
theorem flow_parts (P : List Pace.Cmd) (f : Nat) : P.countP (fun c => c.flow == f) ≤ P.countP (isAdd f) + Pace.cnt f P + P.countP (Pace.isSet f) := by
  induction P with
  | nil => simp [Pace.cnt]
  | cons c P ih =>
    simp only [Pace.cnt, List.countP_cons] at ih ⊢
    cases c with
    | add g r b =>
      have hfl : (Pace.Cmd.add g r b).flow = g := rfl
      rw [hfl]
      by_cases e : g = f
      · subst e; simp [isAdd, Pace.isSet]; omega
      · simp [isAdd, Pace.isSet, e]; omega
    | set g r b l =>
      have hfl : (Pace.Cmd.set g r b l).flow = g := rfl
      rw [hfl]
      by_cases e : g = f
      · subst e; simp [isAdd, Pace.isSet]; omega
      · simp [isAdd, Pace.isSet, e]; omega
    | enq g =>
      have hfl : (Pace.Cmd.enq g).flow = g := rfl
      rw [hfl]
      by_cases e : g = f
      · subst e; simp [isAdd, Pace.isSet]; omega
      · simp [isAdd, Pace.isSet, e]; omega
theorem sum_one {l : List Nat} {f : Nat} (h : f ∈ l) (u v : Nat → Nat) (huv : ∀ n, v n ≤ u n) (hf : v f + 1 ≤ u f) : (l.map v).sum + 1 ≤ (l.map u).sum := by
  induction l with
  | nil => cases h
  | cons n l ih =>
    simp only [List.map_cons, List.sum_cons]
    have hle : (l.map v).sum ≤ (l.map u).sum := by
      clear ih h
      induction l with
      | nil => exact Nat.le_refl _
      | cons m l ih2 => simp only [List.map_cons, List.sum_cons]; have := huv m; omega
    rcases List.mem_cons.1 h with rfl | q
    · omega
    · have := ih q; have := huv n; omega
theorem length_flows (P : List Pace.Cmd) (l : List Nat) (h : ∀ c ∈ P, c.flow ∈ l) : P.length ≤ (l.map fun n => P.countP (fun c => c.flow == n)).sum := by
  induction P with
  | nil => simp
  | cons c P ih =>
    have h1 := ih fun d hd => h d (List.mem_cons_of_mem _ hd)
    have h2 := sum_one (h c (List.mem_cons_self ..)) (fun n => (c :: P).countP (fun c => c.flow == n)) (fun n => P.countP (fun c => c.flow == n)) (fun n => by simp only [List.countP_cons]; omega) (by simp [List.countP_cons])
    simp only [List.length_cons]
    omega
theorem sum_le {l : List Nat} {u : Nat → Nat} {m : Nat} (h : ∀ n ∈ l, u n ≤ m) : (l.map u).sum ≤ m * l.length := by
  induction l with
  | nil => simp
  | cons n l ih =>
    have h1 := ih fun x hx => h x (List.mem_cons_of_mem _ hx)
    have h2 := h n (List.mem_cons_self ..)
    simp only [List.map_cons, List.sum_cons, List.length_cons, Nat.mul_add]
    omega
theorem short80 {s : Pace.St} {P : List Pace.Cmd} (h : Pace.PI s P) (hs : Shrt P) (hfew : s.fl.length ≤ 8) : P.length ≤ 80 := by
  have h1 := length_flows P (s.fl.map (·.num)) fun c hc => by
    obtain ⟨x, hx, e⟩ := h.live c hc
    exact List.mem_map.2 ⟨x, hx, e⟩
  have h2 := sum_le (l := s.fl.map (·.num)) (u := fun n => P.countP (fun c => c.flow == n)) (m := 10) fun n hn => by
    obtain ⟨x, hx, rfl⟩ := List.mem_map.1 hn
    have a1 := flow_parts P x.num
    have a2 := adds_one h.af x.num
    have a3 := h.cnt x hx
    have a4 := (h.wf.F x hx).few
    have a5 := hs x.num
    show P.countP (fun c => c.flow == x.num) ≤ 10
    omega
  rw [List.length_map] at h2
  omega
theorem Shrt.nil : Shrt [] := fun f => by simp
theorem Shrt.snoc {P : List Pace.Cmd} (h : Shrt P) {c : Pace.Cmd} (hc : ∀ f, Pace.isSet f c = false) : Shrt (P ++ [c]) := fun f => by
  rw [List.countP_append, List.countP_cons, hc f]
  have := h f
  simp
  exact this
theorem countP_filter_le {α : Type} (p q : α → Bool) (l : List α) : (l.filter q).countP p ≤ l.countP p := by
  induction l with
  | nil => simp
  | cons x l ih =>
    rw [List.filter_cons]
    split
    · simp only [List.countP_cons]; omega
    · simp only [List.countP_cons]; omega
theorem Shrt.filter {P : List Pace.Cmd} (h : Shrt P) (q : Pace.Cmd → Bool) : Shrt (P.filter q) := fun f => Nat.le_trans (countP_filter_le _ _ _) (h f)
theorem Shrt.set {P : List Pace.Cmd} (h : Shrt P) (f r b l : Nat) : Shrt (P.filter (fun c => !Pace.isSet f c) ++ [.set f r b l]) := fun g => by
  rw [List.countP_append]
  by_cases e : f = g
  · subst e
    have : (P.filter (fun c => !Pace.isSet f c)).countP (Pace.isSet f) = 0 := by
      rw [List.countP_eq_zero]
      intro c hc
      have := (List.mem_filter.1 hc).2
      simpa using this
    rw [this]
    simp [List.countP_cons]
    split <;> omega
  · have h1 := (h.filter (fun c => !Pace.isSet f c)) g
    have h2 : [Pace.Cmd.set f r b l].countP (Pace.isSet g) = 0 := by simp [Pace.isSet, e]
    omega

/-! ### The pacer as one -/
/-- The pacer in memory, and what it stands for. -/
def PA (w : World) (b : Nat) (y : Lay) (p : Pace.PS) (c : Cn) : Prop := ∃ P, PM w b y p.st p.newest P c ∧ p.Inv ∧ Pace.Same p P ∧ Shrt P
/-- A call's step. -/
structure Stp (w w' : World) (y y' : Lay) : Prop where
  fr : Fr w w' y.own
  ext : ∀ k, k < w.heap.size → y.tag k = .none → y'.tag k = .none
theorem Stp.refl (w : World) (y : Lay) : Stp w w y y := ⟨Fr.refl _ _, fun _ _ e => e⟩
theorem Step.stp {w w' : World} {y y' : Lay} (h : Step w w' y y') : Stp w w' y y' := ⟨h.fr, h.ext⟩
theorem StepN.stp {n0 : Nat} {w w' : World} {y y' : Lay} (h : StepN n0 w w' y y') (hn : w.heap.size ≤ n0) : Stp w w' y y' := ⟨h.fr.weak fun k hk q => by
  rcases q with q | q
  · exact q
  · omega, h.ext⟩
theorem Stp.trans {a b c : World} {x y z : Lay} (h : Stp a b x y) (k : Stp b c y z) : Stp a c x z :=
  ⟨h.fr.trans k.fr fun n hn q e => q (h.ext n hn e), fun n hn e => k.ext n (Nat.lt_of_lt_of_le hn h.fr.size) (h.ext n hn e)⟩
theorem PA.kept {w w' : World} {b : Nat} {y : Lay} {p : Pace.PS} {c : Cn} (h : PA w b y p c) {O : Nat → Prop} (hf : Fr w w' O) (hd : ∀ k, y.own k → ¬ O k) : PA w' b y p c := by
  obtain ⟨P, h1, h2⟩ := h
  exact ⟨P, h1.kept hf hd, h2⟩
theorem TabW.stp {w w' : World} {y y' : Lay} (h : TabW w) (hs : Stp w w' y y') (h0 : y.tag 0 = .none) (hz : 0 < w.heap.size) : TabW w' := h.fr hs.fr (fun q => q h0) hz
theorem PB.clock {w : World} {b q ck nw : Nat} {fv pv : Value} {wb : Nat} {c : Cn} (h : PB w b q ck nw fv pv wb c) (ck' : Nat) : PB (w.setCell ⟨b, 1, none⟩ (.int .i64 (ck' : Int))) b q ck' nw fv pv wb c := by
  have hc : Ch w (w.setCell ⟨b, 1, none⟩ (.int .i64 (ck' : Int))) (fun a o => a = b ∧ o = 1) := (Ch.refl w _).setCell ⟨rfl, rfl⟩ _
  have hcc : ∀ o, o ≠ 1 → (w.setCell ⟨b, 1, none⟩ (.int .i64 (ck' : Int))).cell? ⟨b, o, none⟩ = w.cell? ⟨b, o, none⟩ := fun o ho => hc.cell b o fun q => ho q.2
  exact ⟨by rw [hcc _ (by omega)]; exact h.c0, World.cell?_setCell_same' _ _ _ (by rw [h.c1]; rfl), by rw [hcc _ (by omega)]; exact h.c2, by rw [hcc _ (by omega)]; exact h.c3, by rw [hcc _ (by omega)]; exact h.c4, by rw [hcc _ (by omega)]; exact h.c5, by rw [hcc _ (by omega)]; exact h.c6, by rw [hcc _ (by omega)]; exact h.c7, by rw [hcc _ (by omega)]; exact h.c8, by rw [hcc _ (by omega)]; exact h.c9, by rw [hcc _ (by omega)]; exact h.c10, by rw [hcc _ (by omega)]; exact h.c11, by rw [hcc _ (by omega)]; exact h.c12, by rw [hcc _ (by omega)]; exact h.c13, by rw [hcc _ (by omega)]; exact h.c14, by rw [hcc _ (by omega)]; exact h.c15⟩
theorem PB.pend {w : World} {b q ck nw : Nat} {fv pv : Value} {wb : Nat} {c : Cn} (h : PB w b q ck nw fv pv wb c) (pv' : Value) : PB (w.setCell ⟨b, 4, none⟩ pv') b q ck nw fv pv' wb c := by
  have hc : Ch w (w.setCell ⟨b, 4, none⟩ pv') (fun a o => a = b ∧ o = 4) := (Ch.refl w _).setCell ⟨rfl, rfl⟩ _
  have hcc : ∀ o, o ≠ 4 → (w.setCell ⟨b, 4, none⟩ pv').cell? ⟨b, o, none⟩ = w.cell? ⟨b, o, none⟩ := fun o ho => hc.cell b o fun q => ho q.2
  exact ⟨by rw [hcc _ (by omega)]; exact h.c0, by rw [hcc _ (by omega)]; exact h.c1, by rw [hcc _ (by omega)]; exact h.c2, by rw [hcc _ (by omega)]; exact h.c3, World.cell?_setCell_same' _ _ _ (by rw [h.c4]; rfl), by rw [hcc _ (by omega)]; exact h.c5, by rw [hcc _ (by omega)]; exact h.c6, by rw [hcc _ (by omega)]; exact h.c7, by rw [hcc _ (by omega)]; exact h.c8, by rw [hcc _ (by omega)]; exact h.c9, by rw [hcc _ (by omega)]; exact h.c10, by rw [hcc _ (by omega)]; exact h.c11, by rw [hcc _ (by omega)]; exact h.c12, by rw [hcc _ (by omega)]; exact h.c13, by rw [hcc _ (by omega)]; exact h.c14, by rw [hcc _ (by omega)]; exact h.c15⟩
theorem ch1 (w : World) (b o : Nat) (v : Value) : Fr w (w.setCell ⟨b, o, none⟩ v) (fun k => k = b) := ((Ch.refl w (fun a o' => a = b ∧ o' = o)).setCell ⟨rfl, rfl⟩ v).fr2 fun a o q => q.1

/-- Poll. -/
theorem pa_poll {w : World} {b : Nat} {y : Lay} {p : Pace.PS} {c : Cn} (h : PA w b y p c) (hT : TabW w) (hnw : p.newest < 9000000000000000000) (hc : c.sent < 8000000000000000000) (now bud : Int) (hn : now ≤ 4000000000000000000) :
    Calls Tryd.prog 25 #[.pointer (some ⟨b, 0, none⟩), .int .i64 now, .int .i64 bud] w fun e w' => ∃ v, e = .returned (.tuple #[v, .int .i64 0]) ∧ ∃ n0 y', PA w' b y' (p.poll now.toNat bud.toNat).2 { c with sent := c.sent + total (p.poll now.toNat bud.toNat).1 } ∧ BA w' n0 (fun k => y'.tag k = .none) (p.poll now.toNat bud.toNat).1 v ∧ Stp w w' y y' ∧ w.heap.size ≤ n0 := by
  obtain ⟨P, hM, hI, hS, hSh⟩ := h
  have hz : 0 < w.heap.size := Nat.lt_of_le_of_lt (Nat.zero_le _) (hM.lt b hM.ow)
  have hmax : max ((p.st.clock : Nat) : Int) now = ((max p.st.clock now.toNat : Nat) : Int) := by omega
  have hti : Pace.PI (Pace.tick p.st now.toNat) P := by
    have := hS.inv.pi
    exact this.tick (by omega)
  have hai := hti.admit
  have hflt : (Pace.tick p.st now.toNat).fl.length = p.st.fl.length := by simp [Pace.tick]
  have hfla : (Pace.admit (Pace.tick p.st now.toNat) P).fl.length = p.st.fl.length := by have := congrArg List.length (Pace.admit_nums (Pace.tick p.st now.toNat) P); simp at this; rw [this, hflt]
  have hnumt : ∀ x ∈ (Pace.tick p.st now.toNat).fl, x.num < 9223372036854775808 := fun x hx => by
    obtain ⟨z, hz, rfl⟩ := List.mem_map.1 hx
    have := (hI.le z hz).2
    show z.num < _
    omega
  have hnuma : ∀ x ∈ (Pace.admit (Pace.tick p.st now.toNat) P).fl, x.num < 9223372036854775808 := fun x hx => by
    have : x.num ∈ (Pace.admit (Pace.tick p.st now.toNat) P).fl.map (·.num) := List.mem_map.2 ⟨x, hx, rfl⟩
    rw [Pace.admit_nums] at this
    obtain ⟨z, hz, e⟩ := List.mem_map.1 this
    rw [← e]; exact hnumt z hz
  have h80 : P.length ≤ 80 := short80 hS.inv.pi hSh hI.few
  refine (poll_good b now bud (p.st.clock : Int) w (fun w1 => ∃ y1, PM w1 b y1 (Pace.admit (Pace.tick p.st now.toNat) P) p.newest [] c ∧ Step w w1 y y1)
    (fun v w' => ∃ n0 y', PM w' b y' (Pace.rel bud.toNat (Pace.admit (Pace.tick p.st now.toNat) P)).2 p.newest [] { c with sent := c.sent + total (Pace.rel bud.toNat (Pace.admit (Pace.tick p.st now.toNat) P)).1 } ∧ BA w' n0 (fun k => y'.tag k = .none) (Pace.rel bud.toNat (Pace.admit (Pace.tick p.st now.toNat) P)).1 v ∧ Stp w w' y y' ∧ w.heap.size ≤ n0)
    hM.pb.c15 hM.pb.c1 (hM.fz 1) hn ?_ ?_).mono ?_
  · rw [hmax]
    obtain ⟨y1, hP1, hs1, e1, e2, e3, e4, e5⟩ := hM.self (s' := Pace.tick p.st now.toNat) (w' := w.setCell ⟨b, 1, none⟩ (.int .i64 ((max p.st.clock now.toNat : Nat) : Int))) (ch1 _ _ _ _) (fun o => by rw [World.frozen?_setCell]; exact hM.fz o) (hM.pb.clock _) (row_kept hM.rp fun g hg => Below.heap_setCell _ _ _ _ fun e => by
        have := hM.tp g hg
        have e' : g = b := e
        rw [e', hM.tb] at this; cases this) (.inl rfl) rfl (Nat.le_max_left _ _) (Pace.tick_nums _ _) (fun f' hf' => by
        obtain ⟨f, hf, rfl⟩ := List.mem_map.1 hf'
        have hfc := hM.fc f hf
        refine ⟨f, hf, rfl, rfl, rfl, rfl, rfl, ⟨Nat.le_trans hfc.rle (Nat.le_max_left _ _), hfc.cle, ?_⟩⟩
        show Pace.acc f.cr f.rate (f.burst * Pace.parts) (max p.st.clock now.toNat - p.st.clock) = Pace.acc _ f.rate (f.burst * Pace.parts) (max p.st.clock now.toNat - _)
        have hr := hfc.rle
        rw [hfc.eq, Pace.acc_acc]
        congr 1
        omega)
    refine (pm_admit hP1 hti (by rw [hflt]; exact hI.few) hnumt (by omega)).mono ?_
    rintro e w' ⟨rfl, wr, y2, hP2, hs2, b1, rfl⟩
    obtain ⟨y3, hP3, hs3, d1, _⟩ := hP2.self (s' := Pace.admit (Pace.tick p.st now.toNat) P) (P' := []) (w' := wr.setCell ⟨b, 4, none⟩ (.slice none 0 0)) (ch1 _ _ _ _) (fun o => by rw [World.frozen?_setCell]; exact hP2.fz o) (hP2.pb.pend _) (World.ownsRow_nil _ _ _ _) (.inr rfl) rfl (Nat.le_refl _) rfl (fun f hf => ⟨f, hf, rfl, rfl, rfl, rfl, rfl, hP2.fc f hf⟩)
    exact ⟨rfl, y3, hP3, hs1.trans (hs2.trans hs3)⟩
  · rintro w1 ⟨y1, hP1, hs1⟩
    refine (pm_release hP1 hai (by rw [hfla]; exact hI.few) hnuma (TabW.stp hT hs1.stp hM.t0 hz) hc bud).mono ?_
    rintro e w' ⟨v, rfl, n0, y', hP', hB, hs', hn0, _⟩
    have hsz := hs1.fr.size
    exact ⟨v, rfl, n0, y', hP', hB, hs1.stp.trans (hs'.stp hn0), by omega⟩
  · rintro e w' ⟨v, rfl, n0, y', hP', hB, hs', hn0⟩
    rw [hS.poll_eq] at hP' hB
    exact ⟨v, rfl, n0, y', ⟨[], hP', hI.poll bud.toNat (by omega), Pace.Same.poll hI bud.toNat (by omega), Shrt.nil⟩, hB, hs', hn0⟩
/-- Poll, at a time that may not be. -/
theorem pa_poll_bad {w : World} {b : Nat} {y : Lay} {p : Pace.PS} {c : Cn} (h : PA w b y p c) (now bud : Int) (hn : 4000000000000000000 < now) :
    Calls Tryd.prog 25 #[.pointer (some ⟨b, 0, none⟩), .int .i64 now, .int .i64 bud] w fun e w' => e = .returned (.tuple #[.slice none 0 0, .int .i64 1]) ∧ w' = w := by
  obtain ⟨P, hM, _⟩ := h
  exact poll_bad b now bud w hM.pb.c15 hn
/-- Next. -/
def nextOf (p : Pace.PS) (v : Int) : Prop := if p.asks = [] then LeastOf (p.st.A.map fun a => (a.num, a.at')) v else v = (p.st.clock : Int)
theorem pa_next {w : World} {b : Nat} {y : Lay} {p : Pace.PS} {c : Cn} (h : PA w b y p c) (hT : TabW w) :
    Calls Tryd.prog 26 #[.pointer (some ⟨b, 0, none⟩)] w fun e w' => ∃ v : Int, e = .returned (.int .i64 v) ∧ nextOf p v ∧ PA w' b y p c ∧ Fr w w' (fun _ => False) := by
  obtain ⟨P, hM, hI, hS, hSh⟩ := h
  obtain ⟨a, cc, hpv⟩ := row_len hM.rp
  have hc4 := hM.pb.c4
  rw [hpv] at hc4
  by_cases q : P = []
  · have hq : p.asks = [] := hS.nil.1 q
    subst q
    refine (next_wheel b y.wb a cc w (fun v w' => LeastOf (p.st.A.map fun a => (a.num, a.at')) v ∧ Below w.heap.size w w') hM.pb.c15 hc4 hM.pb.c5 (wa_next hM.wa hT)).mono ?_
    rintro e w' ⟨v, rfl, hv, hB⟩
    have hfr : Fr w w' (fun _ => False) := ⟨hB.os, hB.tape, hB.output, hB.size, fun k hk _ => hB.block k hk⟩
    refine ⟨v, rfl, ?_, ⟨[], hM.kept hfr (fun _ _ q => q), hI, hS, hSh⟩, hfr⟩
    unfold nextOf
    rw [if_pos hq]; exact hv
  · have hq : p.asks ≠ [] := fun e => q (hS.nil.2 e)
    refine (next_pend b (p.st.clock : Int) a P.length cc w hM.pb.c15 hc4 (List.length_pos_iff.2 q) hM.pb.c1).mono ?_
    rintro e w' ⟨rfl, rfl⟩
    refine ⟨_, rfl, ?_, ⟨P, hM, hI, hS, hSh⟩, Fr.refl _ _⟩
    unfold nextOf
    rw [if_neg hq]
end Go.Proofs.YtogdekjklbbbiaaDoor

namespace Go.Proofs.YtogdekjklbbbiaaDoor
open Go.ChangeShapes Go.WideShapes Go.ChangeAt Go.RowKit
set_option linter.unusedSimpArgs false
set_option linter.unusedVariables false

theorem Gr.fr {w w' : World} {v v' : Value} (h : Gr w w' v v') : Fr w w' (fun k => v.ownBlock = some k) := by
  rcases h with ⟨_, q⟩ | ⟨_, q⟩
  · exact World.grownBy.fr q
  · exact (World.grownBy.fr q).weak fun k _ e => by cases e
theorem Gr.new {w w' : World} {v v' : Value} (h : Gr w w' v v') {g : Nat} (hg : v'.ownBlock = some g) : v.ownBlock = some g ∨ g = w.heap.size := by
  rcases h with ⟨q, _⟩ | ⟨q, _⟩
  · exact .inl (by rw [← q]; exact hg)
  · right; rw [q] at hg; injection hg with hg; exact hg.symm
/-- What waits has turned. -/
theorem PM.pendG2 {w w' : World} {b : Nat} {y : Lay} {s : Pace.St} {nw : Nat} {P P' : List Pace.Cmd} {c c' : Cn} {pv' : Value} (h : PM w b y s nw P c) (hf : Fr w w' (fun k => k = b ∨ y.pv.ownBlock = some k)) (hfz : ∀ o, w'.frozen? ⟨b, o, none⟩ = false)
    (hPB : PB w' b s.q s.clock nw y.fv pv' y.wb c') (hrp : w'.ownsRow 0 136 5 pv' P'.length (cmdsC y.B P')) (hpv : ∀ g, pv'.ownBlock = some g → y.pv.ownBlock = some g ∨ w.heap.size ≤ g) :
    ∃ y', PM w' b y' s nw P' c' ∧ Step w w' y y' ∧ y'.B = y.B ∧ y'.pv = pv' := by
  have hk : ∀ k t, y.tag k = t → t ≠ .none → t ≠ .self → t ≠ .rowP → w'.heap[k]? = w.heap[k]? := fun k t e h1 h2 h3 => hf.blk k (h.lt k (h.own_of e h1)) fun q => by
    rcases q with q | q
    · exact h2 (by rw [← e, q]; exact h.tb)
    · exact h3 (by rw [← e]; exact h.tp k q)
  have ht : ∀ k, k < w.heap.size → y.tag k ≠ .rowP → pv'.ownBlock ≠ some k := fun k hkl hkt e => by
    rcases hpv k e with q | q
    · exact hkt (h.tp k q)
    · omega
  have hto : ∀ k t, y.tag k = t → t ≠ .none → t ≠ .rowP → pv'.ownBlock ≠ some k := fun k t e h1 h2 => ht k (h.lt k (h.own_of e h1)) (by rw [e]; exact h2)
  refine ⟨{ y with tag := fun k => if pv'.ownBlock = some k then .rowP else y.tag k, pv := pv' }, ⟨?_, ?_, ?_, hfz, hPB, ?_, ?_, hrp, ?_, ?_, ?_, h.wn, ?_, h.fc, ?_, ?_, h.ak⟩, ⟨?_, ?_⟩, rfl, rfl⟩
  · show (if _ then _ else _) = _
    rw [if_neg (hto b _ h.tb (by simp) (by simp))]; exact h.tb
  · show (if _ then _ else _) = _
    rw [if_neg (ht 0 (Nat.lt_of_le_of_lt (Nat.zero_le _) (h.lt b h.ow)) (by rw [h.t0]; simp))]; exact h.t0
  · intro k hO
    have hO' : (if pv'.ownBlock = some k then Tag.rowP else y.tag k) ≠ .none := hO
    by_cases q : pv'.ownBlock = some k
    · exact (hrp.lt k q).2
    · rw [if_neg q] at hO'
      exact Nat.lt_of_lt_of_le (h.lt k hO') hf.size
  · exact row_kept h.rf fun g hg => hk g _ (h.tf g hg) (by simp) (by simp) (by simp)
  · intro g hg
    show (if _ then _ else _) = _
    rw [if_neg (hto g _ (h.tf g hg) (by simp) (by simp))]; exact h.tf g hg
  · intro g hg
    show (if _ then _ else _) = _
    exact if_pos hg
  · exact h.wa.kept hf fun k hO q => by
      have := h.two k hO
      rcases q with q | q
      · rw [q, h.tb] at this; cases this
      · rw [h.tp k q] at this; cases this
  · intro k hO
    show (if _ then _ else _) = _
    rw [if_neg (hto k _ (h.two k hO) (by simp) (by simp))]; exact h.two k hO
  · exact fun f hfl => (h.fl f hfl).kept (hk _ _ (h.tl f hfl) (by simp) (by simp) (by simp)) fun g hg => hk g _ (h.tk f hfl g hg) (by simp) (by simp) (by simp)
  · intro f hfl
    show (if _ then _ else _) = _
    rw [if_neg (hto _ _ (h.tl f hfl) (by simp) (by simp))]; exact h.tl f hfl
  · intro f hfl g hg
    show (if _ then _ else _) = _
    rw [if_neg (hto g _ (h.tk f hfl g hg) (by simp) (by simp))]; exact h.tk f hfl g hg
  · exact hf.weak fun k _ q => by
      rcases q with q | q
      · rw [q]; exact h.ow
      · exact h.own_of (h.tp k q) (by simp)
  · intro k hk' e
    show (if _ then _ else _) = _
    rw [if_neg (ht k hk' (by rw [e]; simp))]; exact e
theorem PM.pendG {w w' : World} {b : Nat} {y : Lay} {s : Pace.St} {nw : Nat} {P P' : List Pace.Cmd} {c c' : Cn} {pv' : Value} (h : PM w b y s nw P c) (hf : Fr w w' (fun k => k = b ∨ y.pv.ownBlock = some k)) (hfz : ∀ o, w'.frozen? ⟨b, o, none⟩ = false)
    (hPB : PB w' b s.q s.clock nw y.fv pv' y.wb c') (hrp : w'.ownsRow 0 136 5 pv' P'.length (cmdsC y.B P')) (hpv : ∀ g, pv'.ownBlock = some g → y.pv.ownBlock = some g ∨ w.heap.size ≤ g) :
    ∃ y', PM w' b y' s nw P' c' ∧ Step w w' y y' ∧ y'.B = y.B := by
  obtain ⟨y', h1, h2, h3, _⟩ := h.pendG2 hf hfz hPB hrp hpv
  exact ⟨y', h1, h2, h3⟩
theorem cmdsC_snoc (B : Nat → Nat) (P : List Pace.Cmd) (cm : Pace.Cmd) : cmdsC B (P ++ [cm]) = cmdsC B P ++ cmdC B cm := by simp [cmdsC]
theorem pv_ne_b {w : World} {b : Nat} {y : Lay} {s : Pace.St} {nw : Nat} {P : List Pace.Cmd} {c : Cn} (h : PM w b y s nw P c) : y.pv.ownBlock ≠ some b := fun e => by have := h.tp b e; rw [h.tb] at this; cases this
/-- A command is put behind the others. -/
theorem pm_push {w w4 : World} {b : Nat} {y : Lay} {s : Pace.St} {nw : Nat} {P : List Pace.Cmd} {c : Cn} (h : PM w b y s nw P c) (cm : Pace.Cmd) {o : Obj} {pv' : Value} (hr : w4.ownsRow 0 136 5 pv' (P.length + 1) (cmdsC y.B P ++ cmdC y.B cm)) (hg : Gr (w.alloc o) w4 y.pv pv') :
    ∃ y', PM (w4.setCell ⟨b, 4, none⟩ pv') b y' s nw (P ++ [cm]) c ∧ Step w (w4.setCell ⟨b, 4, none⟩ pv') y y' ∧ y'.B = y.B := by
  have hfr0 : Fr w (w.alloc o) (fun k => k = b ∨ y.pv.ownBlock = some k) := (Fr.refl _ _).alloc o
  have hb : b < w.heap.size := h.lt b h.ow
  have hb4 : w4.heap[b]? = w.heap[b]? := by
    refine (hg.fr.blk b (by simp; omega) (pv_ne_b h)).trans ?_
    exact Below.heap_alloc _ _ _ (by omega)
  have hPB4 : PB w4 b s.q s.clock nw y.fv y.pv y.wb c := h.pb.kept hb4
  have hfr : Fr w (w4.setCell ⟨b, 4, none⟩ pv') (fun k => k = b ∨ y.pv.ownBlock = some k) := (hfr0.trans hg.fr fun k _ q => .inr q).trans (ch1 w4 b 4 pv') fun k _ q => .inl q
  have hsz : (w.alloc o).heap.size = w.heap.size + 1 := by simp
  have hnew : ∀ g, pv'.ownBlock = some g → y.pv.ownBlock = some g ∨ w.heap.size ≤ g := fun g hgg => by
    rcases hg.new hgg with q | q
    · exact .inl q
    · exact .inr (by omega)
  refine h.pendG (P' := P ++ [cm]) hfr (fun o' => by rw [World.frozen?_setCell, frozen_of hb4]; exact h.fz o') (hPB4.pend pv') ?_ hnew
  rw [List.length_append, List.length_singleton, cmdsC_snoc]
  refine row_kept0 hr fun g hgg => Below.heap_setCell _ _ _ _ fun e => ?_
  have e' : g = b := e
  rcases hnew g hgg with q | q
  · rw [e'] at q; exact pv_ne_b h q
  · omega
theorem flat_congr {α β : Type} {u v : α → List β} {l : List α} (h : ∀ x ∈ l, u x = v x) : l.flatMap u = l.flatMap v := by
  induction l with
  | nil => rfl
  | cons x l ih => rw [List.flatMap_cons, List.flatMap_cons, h x (List.mem_cons_self ..), ih fun z hz => h z (List.mem_cons_of_mem _ hz)]
/-- A flow is put behind the others. -/
theorem PM.addFl {w w' : World} {b : Nat} {y : Lay} {s : Pace.St} {nw : Nat} {P : List Pace.Cmd} {c : Cn} {fv' : Value} {F : Nat} (h : PM w b y s nw P c) (hle : ∀ x ∈ s.fl, x.num ≤ nw) (hA : ∀ a ∈ s.A, ∃ x ∈ s.fl, x.num = a.num) (hP : ∀ cm ∈ P, ∃ x ∈ s.fl, x.num = cm.flow) (hf : Fr w w' (fun k => k = b ∨ y.fv.ownBlock = some k)) (hfz : ∀ o, w'.frozen? ⟨b, o, none⟩ = false)
    (hPB : PB w' b s.q s.clock (nw + 1) fv' y.pv y.wb c) (hrf : w'.ownsRow 0 132 1 fv' (s.fl.length + 1) ((s.fl.map fun f => Value.pointer (some ⟨y.B f.num, 0, none⟩)) ++ [.pointer (some ⟨F, 0, none⟩)])) (hfv : ∀ g, fv'.ownBlock = some g → y.fv.ownBlock = some g ∨ w.heap.size < g) (hF : F = w.heap.size) (hF' : F < w'.heap.size)
    (hFA : FA w' F ⟨nw + 1, 0, 0, 0, [], 0⟩ 0 0 0 (.slice none 0 0)) :
    ∃ y', PM w' b y' { s with fl := s.fl ++ [⟨nw + 1, 0, 0, 0, [], 0⟩] } (nw + 1) P c ∧ Step w w' y y' ∧ y'.B (nw + 1) = F ∧ (∀ k, k ≤ nw → y'.B k = y.B k) ∧ y'.pv = y.pv := by
  have hk : ∀ k t, y.tag k = t → t ≠ .none → t ≠ .self → t ≠ .rowF → w'.heap[k]? = w.heap[k]? := fun k t e h1 h2 h3 => hf.blk k (h.lt k (h.own_of e h1)) fun q => by
    rcases q with q | q
    · exact h2 (by rw [← e, q]; exact h.tb)
    · exact h3 (by rw [← e]; exact h.tf k q)
  have ht : ∀ k, k < w.heap.size → y.tag k ≠ .rowF → fv'.ownBlock ≠ some k := fun k hkl hkt e => by
    rcases hfv k e with q | q
    · exact hkt (h.tf k q)
    · omega
  have hkeep : ∀ k t, y.tag k = t → t ≠ .none → t ≠ .rowF → (if k = F then Tag.flow (nw + 1) else if fv'.ownBlock = some k then .rowF else y.tag k) = t := fun k t e h1 h2 => by
    have hlt := h.lt k (h.own_of e h1)
    rw [if_neg (by omega), if_neg (ht k hlt (by rw [e]; exact h2))]; exact e
  have hne : ∀ f ∈ s.fl, f.num ≠ nw + 1 := fun f hf' => by have := hle f hf'; omega
  have hmem : ∀ f ∈ s.fl ++ [(⟨nw + 1, 0, 0, 0, [], 0⟩ : Pace.Fl)], f ∈ s.fl ∨ f = ⟨nw + 1, 0, 0, 0, [], 0⟩ := fun f hf' => by
    rcases List.mem_append.1 hf' with q | q
    · exact .inl q
    · exact .inr (List.mem_singleton.1 q)
  refine ⟨{ y with tag := fun k => if k = F then .flow (nw + 1) else if fv'.ownBlock = some k then .rowF else y.tag k, B := upd y.B (nw + 1) F, V := upd y.V (nw + 1) (.slice none 0 0), cr := upd y.cr (nw + 1) 0, rk := upd y.rk (nw + 1) 0, bt := upd y.bt (nw + 1) 0, fv := fv' }, ⟨?_, ?_, ?_, hfz, hPB, ?_, ?_, ?_, ?_, ?_, ?_, h.wn, ?_, ?_, ?_, ?_, ?_⟩, ⟨?_, ?_⟩, upd_same _ _ _, fun k hk' => upd_other _ _ (by omega), rfl⟩
  · exact hkeep b _ h.tb (by simp) (by simp)
  · have hb := h.lt b h.ow
    show (if _ then _ else _) = _
    rw [if_neg (by omega), if_neg (ht 0 (by omega) (by rw [h.t0]; simp))]; exact h.t0
  · intro k hO
    have hO' : (if k = F then Tag.flow (nw + 1) else if fv'.ownBlock = some k then .rowF else y.tag k) ≠ .none := hO
    by_cases q0 : k = F
    · omega
    · rw [if_neg q0] at hO'
      by_cases q : fv'.ownBlock = some k
      · exact (hrf.lt k q).2
      · rw [if_neg q] at hO'
        exact Nat.lt_of_lt_of_le (h.lt k hO') hf.size
  · show w'.ownsRow 0 132 1 fv' (s.fl ++ [_]).length ((s.fl ++ [_]).map _)
    rw [List.length_append, List.length_singleton, List.map_append]
    have e1 : s.fl.map (fun f => Value.pointer (some ⟨upd y.B (nw + 1) F f.num, 0, none⟩)) = s.fl.map fun f => Value.pointer (some ⟨y.B f.num, 0, none⟩) := List.map_congr_left fun f hf' => by rw [upd_other _ _ (hne f hf')]
    rw [e1]
    simp only [List.map_cons, List.map_nil, upd_same]
    exact hrf
  · intro g hg
    have hg' : fv'.ownBlock = some g := hg
    show (if _ then _ else _) = _
    rw [if_neg, if_pos hg']
    rcases hfv g hg' with q | q
    · have := h.lt g (h.own_of (h.tf g q) (by simp)); omega
    · omega
  · show w'.ownsRow 0 136 5 y.pv P.length (cmdsC (upd y.B (nw + 1) F) P)
    have e1 : cmdsC (upd y.B (nw + 1) F) P = cmdsC y.B P := by
      unfold cmdsC
      have : ∀ cm ∈ P, cmdC (upd y.B (nw + 1) F) cm = cmdC y.B cm := fun cm hcm => by
        obtain ⟨x, hx, e⟩ := hP cm hcm
        rw [cmdC_eq, cmdC_eq, upd_other _ _ (by rw [← e]; exact hne x hx)]
      exact flat_congr this
    rw [e1]
    exact row_kept h.rp fun g hg => hk g _ (h.tp g hg) (by simp) (by simp) (by simp)
  · exact fun g hg => hkeep g _ (h.tp g hg) (by simp) (by simp)
  · exact h.wa.kept hf fun k hO q => by
      have := h.two k hO
      rcases q with q | q
      · rw [q, h.tb] at this; cases this
      · rw [h.tf k q] at this; cases this
  · exact fun k hO => hkeep k _ (h.two k hO) (by simp) (by simp)
  · intro f hf'
    rcases hmem f hf' with q | rfl
    · simp only [upd_other _ _ (hne f q)]
      exact (h.fl f q).kept (hk _ _ (h.tl f q) (by simp) (by simp) (by simp)) fun g hg => hk g _ (h.tk f q g hg) (by simp) (by simp) (by simp)
    · simp only [upd_same]; exact hFA
  · intro f hf'
    rcases hmem f hf' with q | rfl
    · simp only [upd_other _ _ (hne f q)]
      exact h.fc f q
    · simp only [upd_same]
      exact ⟨Nat.zero_le _, Nat.zero_le _, by simp [Pace.acc]⟩
  · intro f hf'
    rcases hmem f hf' with q | rfl
    · have := hkeep _ _ (h.tl f q) (by simp) (by simp)
      have e : upd y.B (nw + 1) F f.num = y.B f.num := upd_other _ _ (hne f q)
      rw [← e] at this
      exact this
    · show (if upd y.B (nw + 1) F (nw + 1) = F then _ else _) = _
      rw [upd_same, if_pos rfl]
  · intro f hf' g hg
    rcases hmem f hf' with q | rfl
    · simp only [upd_other _ _ (hne f q)] at hg
      exact hkeep g _ (h.tk f q g hg) (by simp) (by simp)
    · simp only [upd_same] at hg
      cases hg
  · intro a ha
    obtain ⟨x, hx, e⟩ := hA a ha
    show upd y.bt (nw + 1) 0 a.num = a.k
    rw [upd_other _ _ (by rw [← e]; exact hne x hx)]
    exact h.ak a ha
  · exact hf.weak fun k _ q => by
      rcases q with q | q
      · rw [q]; exact h.ow
      · exact h.own_of (h.tf k q) (by simp)
  · intro k hk' e
    show (if _ then _ else _) = _
    rw [if_neg (by omega), if_neg (ht k hk' (by rw [e]; simp))]; exact e
/-- Add. -/
theorem pa_add {w : World} {b : Nat} {y : Lay} {p : Pace.PS} {c : Cn} (h : PA w b y p c) (hnw : p.newest < 8000000000000000000) (hfew : p.st.fl.length < 8) (r bu : Int) (hal : Pace.allowed r bu) :
    Calls Tryd.prog 21 #[.pointer (some ⟨b, 0, none⟩), .int .i64 r, .int .i64 bu] w fun e w' => e = .returned (.tuple #[.int .i64 ((p.newest : Int) + 1), .int .i64 0]) ∧ ∃ y', PA w' b y' (p.add r.toNat bu.toNat) c ∧ Stp w w' y y' := by
  obtain ⟨P, hM, hI, hS, hSh⟩ := h
  have h80 : P.length ≤ 80 := short80 hS.inv.pi hSh hI.few
  obtain ⟨a1, a2, a3, a4⟩ := hal
  have hb : b < w.heap.size := hM.lt b hM.ow
  have hfb : y.fv.ownBlock ≠ some b := fun e => by have := hM.tf b e; rw [hM.tb] at this; cases this
  refine (add_good b p.st.fl.length P.length (p.newest : Int) r bu y.fv y.pv _ _ w hfew (by omega) (by omega) hM.pb.c2 hM.pb.c3 hM.pb.c4 hM.pb.c15 hM.fz ⟨a1, a2, a3, a4⟩ hM.rf hM.rp hfb (pv_ne_b hM) (fun g hg e => by have h1 := hM.tf g hg; have h2 := hM.tp g e; rw [h1] at h2; cases h2)).mono ?_
  rintro e w' ⟨rfl, fv', pv', w2, w4, hrf, hG1, hrp, hG2, rfl⟩
  refine ⟨rfl, ?_⟩
  have hs1 : (((w.setCell ⟨b, 2, none⟩ (.int .i64 ((p.newest : Int) + 1))).alloc (newFl ((p.newest : Int) + 1))).alloc (.cells #[.pointer (some ⟨w.heap.size, 0, none⟩)] 132)).heap.size = w.heap.size + 2 := by simp
  have hfr1 : Fr w (((w.setCell ⟨b, 2, none⟩ (.int .i64 ((p.newest : Int) + 1))).alloc (newFl ((p.newest : Int) + 1))).alloc (.cells #[.pointer (some ⟨w.heap.size, 0, none⟩)] 132)) (fun k => k = b ∨ y.fv.ownBlock = some k) := (((ch1 w b 2 _).weak fun k _ q => .inl q).alloc _).alloc _
  have hsz2 := hG1.fr.size
  have hfr2 : Fr w (w2.setCell ⟨b, 3, none⟩ fv') (fun k => k = b ∨ y.fv.ownBlock = some k) := (hfr1.trans hG1.fr fun k _ q => .inr q).trans (ch1 w2 b 3 fv') fun k _ q => .inl q
  have hb2 : w2.heap[b]? = (w.setCell ⟨b, 2, none⟩ (.int .i64 ((p.newest : Int) + 1))).heap[b]? := by
    refine (hG1.fr.blk b (by omega) hfb).trans ?_
    rw [Below.heap_alloc _ _ _ (by simp; omega), Below.heap_alloc _ _ _ (by simp; omega)]
  have hcb2 : ∀ o, w2.cell? ⟨b, o, none⟩ = (w.setCell ⟨b, 2, none⟩ (.int .i64 ((p.newest : Int) + 1))).cell? ⟨b, o, none⟩ := fun o => World.cell?_of_block (w := w.setCell ⟨b, 2, none⟩ (.int .i64 ((p.newest : Int) + 1))) (a := ⟨b, o, none⟩) hb2
  have hch : Ch w (w.setCell ⟨b, 2, none⟩ (.int .i64 ((p.newest : Int) + 1))) (fun a o => a = b ∧ o = 2) := (Ch.refl w _).setCell ⟨rfl, rfl⟩ _
  have hch3 : Ch w2 (w2.setCell ⟨b, 3, none⟩ fv') (fun a o => a = b ∧ o = 3) := (Ch.refl w2 _).setCell ⟨rfl, rfl⟩ _
  have hcc : ∀ o, o ≠ 2 → o ≠ 3 → (w2.setCell ⟨b, 3, none⟩ fv').cell? ⟨b, o, none⟩ = w.cell? ⟨b, o, none⟩ := fun o o2 o3 => (hch3.cell b o fun q => o3 q.2).trans ((hcb2 o).trans (hch.cell b o fun q => o2 q.2))
  have hPB : PB (w2.setCell ⟨b, 3, none⟩ fv') b p.st.q p.st.clock (p.newest + 1) fv' y.pv y.wb c := by
    have h := hM.pb
    refine ⟨by rw [hcc _ (by omega) (by omega)]; exact h.c0, by rw [hcc _ (by omega) (by omega)]; exact h.c1, ?_, ?_, by rw [hcc _ (by omega) (by omega)]; exact h.c4, by rw [hcc _ (by omega) (by omega)]; exact h.c5, by rw [hcc _ (by omega) (by omega)]; exact h.c6, by rw [hcc _ (by omega) (by omega)]; exact h.c7, by rw [hcc _ (by omega) (by omega)]; exact h.c8, by rw [hcc _ (by omega) (by omega)]; exact h.c9, by rw [hcc _ (by omega) (by omega)]; exact h.c10, by rw [hcc _ (by omega) (by omega)]; exact h.c11, by rw [hcc _ (by omega) (by omega)]; exact h.c12, by rw [hcc _ (by omega) (by omega)]; exact h.c13, by rw [hcc _ (by omega) (by omega)]; exact h.c14, by rw [hcc _ (by omega) (by omega)]; exact h.c15⟩
    · rw [hch3.cell b 2 (by omega), hcb2 2, World.cell?_setCell_same' _ _ _ (by rw [h.c2]; rfl)]
      simp
    · refine World.cell?_setCell_same' _ _ _ ?_
      rw [hcb2 3, hch.cell b 3 (by omega), h.c3]; rfl
  have hF2 : (w2.setCell ⟨b, 3, none⟩ fv').heap[w.heap.size]? = some (newFl ((p.newest : Int) + 1)) := by
    have hfn : y.fv.ownBlock ≠ some w.heap.size := fun e => by have := (hM.rf.lt _ e).2; omega
    rw [Below.heap_setCell _ _ _ _ (by show w.heap.size ≠ b; omega), hG1.fr.blk w.heap.size (by omega) hfn, Below.heap_alloc _ _ _ (by simp)]
    have := heap_alloc_new (w.setCell ⟨b, 2, none⟩ (.int .i64 ((p.newest : Int) + 1))) (newFl ((p.newest : Int) + 1))
    simpa using this
  have hnewf : ∀ g, fv'.ownBlock = some g → y.fv.ownBlock = some g ∨ w.heap.size < g := fun g hg => by
    rcases hG1.new hg with q | q
    · exact .inl q
    · exact .inr (by omega)
  have hFA : FA (w2.setCell ⟨b, 3, none⟩ fv') w.heap.size ⟨p.newest + 1, 0, 0, 0, [], 0⟩ 0 0 0 (.slice none 0 0) := by
    have hc := fun o => heap_cell hF2 o
    refine ⟨by rw [hc]; simp, by rw [hc]; simp, by rw [hc]; simp, by rw [hc]; simp, by rw [hc]; simp, by rw [hc]; simp, by rw [hc]; simp, by rw [hc]; simp, World.ownsRow_nil _ _ _ _, fun o => ?_⟩
    simp [World.frozen?, hF2, newFl]
  obtain ⟨y1, hP1, hs1', e1, e2, e3⟩ := hM.addFl (fun x hx => (hI.le x hx).2) (fun a ha => by
      obtain ⟨x, hx, _⟩ := hI.pi.wf.A a ha
      exact ⟨x, (Pace.look_some hx).1, (Pace.look_some hx).2⟩) hS.inv.pi.live hfr2 (fun o => by rw [World.frozen?_setCell, frozen_of hb2, World.frozen?_setCell]; exact hM.fz o) hPB (row_kept0 hrf fun g hg => Below.heap_setCell _ _ _ _ fun e => by
      have e' : g = b := e
      rcases hnewf g hg with q | q
      · rw [e'] at q; exact hfb q
      · omega) hnewf rfl (by simp; omega) hFA
  have hcm : cmdsC y1.B P = cmdsC y.B P := flat_congr fun cm hcm => by
    obtain ⟨x, hx, e⟩ := hS.inv.pi.live cm hcm
    rw [cmdC_eq, cmdC_eq, e2 cm.flow (by rw [← e]; exact (hI.le x hx).2)]
  obtain ⟨y2, hP2, hs2, _⟩ := pm_push hP1 (.add (p.newest + 1) r.toNat bu.toNat) (pv' := pv') (by
      rw [hcm]
      have e4 : cmdC y1.B (.add (p.newest + 1) r.toNat bu.toNat) = [.int .i64 0, .pointer (some ⟨w.heap.size, 0, none⟩), .int .i64 r, .int .i64 bu, .int .i64 0] := by
        show [Value.int .i64 0, .pointer (some ⟨y1.B (p.newest + 1), 0, none⟩), .int .i64 ((r.toNat : Nat) : Int), .int .i64 ((bu.toNat : Nat) : Int), .int .i64 0] = _
        rw [e1, show ((r.toNat : Nat) : Int) = r by omega, show ((bu.toNat : Nat) : Int) = bu by omega]
      rw [e4]
      exact hrp) (by rw [e3]; exact hG2)
  exact ⟨y2, ⟨P ++ [Pace.Cmd.add (p.newest + 1) r.toNat bu.toNat], hP2, hI.add (by omega) (by omega) hfew, hS.add (by omega) (by omega) hfew, hSh.snoc fun _ => rfl⟩, (hs1'.trans hs2).stp⟩
end Go.Proofs.YtogdekjklbbbiaaDoor

namespace Go.Proofs.YtogdekjklbbbiaaDoor
open Go.ChangeShapes Go.WideShapes Go.ChangeAt Go.RowKit
set_option linter.unusedSimpArgs false
set_option linter.unusedVariables false

/-- The flow of a number that was handed in. -/
def lookI (l : List Pace.Fl) (f : Int) : Option Pace.Fl := l.find? fun x => decide ((x.num : Int) = f)
theorem lookI_some {l : List Pace.Fl} {f : Int} {x : Pace.Fl} (h : lookI l f = some x) (hnd : (l.map (·.num)).Nodup) : x ∈ l ∧ (x.num : Int) = f ∧ Pace.look l x.num = some x ∧ f.toNat = x.num := by
  have h1 := List.mem_of_find?_eq_some h
  have h2 := List.find?_some h
  have h3 : (x.num : Int) = f := by simpa using h2
  exact ⟨h1, h3, Pace.look_of_mem hnd h1, by omega⟩
theorem fz_cells {W : World} {z : Nat} {cur : Array Value} {t : TypeId} (h : W.heap[z]? = some (.cells cur t)) (o : Nat) : W.frozen? ⟨z, o, none⟩ = false := by simp [World.frozen?, h]
/-- New. -/
theorem pa_new (w : World) (hz : 0 < w.heap.size) (q : Int) (h1 : 1500 ≤ q) (h2 : q ≤ 1000000) :
    Calls Tryd.prog 20 #[.int .i64 q] w fun e w' => ∃ b y, e = .returned (.tuple #[.pointer (some ⟨b, 0, none⟩), .int .i64 0]) ∧ PA w' b y (Pace.PS.new q.toNat) ⟨0, 0, 0, 0, 0, 0⟩ ∧ Fr w w' (fun _ => False) ∧ ∀ k, y.own k → w.heap.size ≤ k := by
  refine (new_good q w (fun wb w1 => Fr w w1 (fun _ => False) ∧ ∃ O : Nat → Prop, WA w1 wb O 0 [] ∧ ∀ k, O k → w.heap.size ≤ k) h1 h2 (wa_new w)).mono ?_
  rintro e w' ⟨wb, w1, ⟨hfr, O, hW, hO⟩, rfl, rfl⟩
  have hs := hfr.size
  have hh := heap_alloc_new w1 (.cells #[.int .i64 q, .int .i64 0, .int .i64 0, .slice none 0 0, .slice none 0 0, .pointer (some ⟨wb, 0, none⟩), .int .i64 0, .int .i64 0, .int .i64 0, .int .i64 0, .int .i64 0, .int .i64 0, .int .u32 0, .int .i32 0, .int .u32 0, .bool false] 130)
  have hc := fun o => heap_cell hh o
  have hqq : ((q.toNat : Nat) : Int) = q := by omega
  refine ⟨w1.heap.size, { tag := fun k => if k = w1.heap.size then .self else if w.heap.size ≤ k ∧ k < w1.heap.size then .wheel else .none, B := fun _ => 0, V := fun _ => .slice none 0 0, cr := fun _ => 0, rk := fun _ => 0, bt := fun _ => 0, fv := .slice none 0 0, pv := .slice none 0 0, wb := wb, wn := 0, wo := O }, rfl, ⟨[], ⟨?_, ?_, ?_, ?_, ?_, World.ownsRow_nil _ _ _ _, ?_, World.ownsRow_nil _ _ _ _, ?_, ?_, ?_, Nat.le_refl _, ?_, ?_, ?_, ?_, ?_⟩, Pace.PS.new_inv (by omega), Pace.Same.new (by omega), Shrt.nil⟩, hfr.alloc _, ?_⟩
  · exact if_pos rfl
  · show (if _ then _ else _) = _
    rw [if_neg (by omega), if_neg (by omega)]
  · intro k hO'
    have hO2 : (if k = w1.heap.size then Tag.self else if w.heap.size ≤ k ∧ k < w1.heap.size then .wheel else .none) ≠ .none := hO'
    have : (w1.alloc (.cells #[.int .i64 q, .int .i64 0, .int .i64 0, .slice none 0 0, .slice none 0 0, .pointer (some ⟨wb, 0, none⟩), .int .i64 0, .int .i64 0, .int .i64 0, .int .i64 0, .int .i64 0, .int .i64 0, .int .u32 0, .int .i32 0, .int .u32 0, .bool false] 130)).heap.size = w1.heap.size + 1 := by simp
    rw [this]
    by_cases q1 : k = w1.heap.size
    · omega
    · rw [if_neg q1] at hO2
      by_cases q2 : w.heap.size ≤ k ∧ k < w1.heap.size
      · omega
      · rw [if_neg q2] at hO2; exact absurd rfl hO2
  · intro o; exact fz_cells hh o
  · refine ⟨?_, by rw [hc]; rfl, by rw [hc]; rfl, by rw [hc]; rfl, by rw [hc]; rfl, by rw [hc]; rfl, by rw [hc]; rfl, by rw [hc]; rfl, by rw [hc]; rfl, by rw [hc]; rfl, by rw [hc]; rfl, by rw [hc]; rfl, by rw [hc]; rfl, by rw [hc]; rfl, by rw [hc]; rfl, by rw [hc]; rfl⟩
    rw [hc]
    show _ = some (Value.int .i64 ((q.toNat : Nat) : Int))
    rw [hqq]; rfl
  · intro g hg; cases hg
  · intro g hg; cases hg
  · exact hW.kept ((Fr.refl _ (fun _ => False)).alloc _) fun _ _ q => q
  · intro k hk
    show (if _ then _ else _) = _
    have := hO k hk
    have := hW.olt hk
    rw [if_neg (by omega), if_pos ⟨by omega, by omega⟩]
  · intro f hf; cases hf
  · intro f hf; cases hf
  · intro f hf; cases hf
  · intro f hf; cases hf
  · intro f hf; cases hf
  · intro k hk
    have hk' : (if k = w1.heap.size then Tag.self else if w.heap.size ≤ k ∧ k < w1.heap.size then .wheel else .none) ≠ .none := hk
    by_cases q1 : k = w1.heap.size
    · omega
    · rw [if_neg q1] at hk'
      by_cases q2 : w.heap.size ≤ k ∧ k < w1.heap.size
      · exact q2.1
      · rw [if_neg q2] at hk'; exact absurd rfl hk'
theorem PB.taken {w : World} {b q ck nw : Nat} {fv pv : Value} {wb : Nat} {c : Cn} (h : PB w b q ck nw fv pv wb c) (n : Nat) : PB (w.setCell ⟨b, 6, none⟩ (.int .i64 (n : Int))) b q ck nw fv pv wb { c with taken := n } := by
  have hc : Ch w (w.setCell ⟨b, 6, none⟩ (.int .i64 (n : Int))) (fun a o => a = b ∧ o = 6) := (Ch.refl w _).setCell ⟨rfl, rfl⟩ _
  have hcc : ∀ o, o ≠ 6 → (w.setCell ⟨b, 6, none⟩ (.int .i64 (n : Int))).cell? ⟨b, o, none⟩ = w.cell? ⟨b, o, none⟩ := fun o ho => hc.cell b o fun q => ho q.2
  exact ⟨by rw [hcc _ (by omega)]; exact h.c0, by rw [hcc _ (by omega)]; exact h.c1, by rw [hcc _ (by omega)]; exact h.c2, by rw [hcc _ (by omega)]; exact h.c3, by rw [hcc _ (by omega)]; exact h.c4, by rw [hcc _ (by omega)]; exact h.c5, World.cell?_setCell_same' _ _ _ (by rw [h.c6]; rfl), by rw [hcc _ (by omega)]; exact h.c7, by rw [hcc _ (by omega)]; exact h.c8, by rw [hcc _ (by omega)]; exact h.c9, by rw [hcc _ (by omega)]; exact h.c10, by rw [hcc _ (by omega)]; exact h.c11, by rw [hcc _ (by omega)]; exact h.c12, by rw [hcc _ (by omega)]; exact h.c13, by rw [hcc _ (by omega)]; exact h.c14, by rw [hcc _ (by omega)]; exact h.c15⟩
theorem PB.refused {w : World} {b q ck nw : Nat} {fv pv : Value} {wb : Nat} {c : Cn} (h : PB w b q ck nw fv pv wb c) (n : Nat) : PB (w.setCell ⟨b, 7, none⟩ (.int .i64 (n : Int))) b q ck nw fv pv wb { c with refused := n } := by
  have hc : Ch w (w.setCell ⟨b, 7, none⟩ (.int .i64 (n : Int))) (fun a o => a = b ∧ o = 7) := (Ch.refl w _).setCell ⟨rfl, rfl⟩ _
  have hcc : ∀ o, o ≠ 7 → (w.setCell ⟨b, 7, none⟩ (.int .i64 (n : Int))).cell? ⟨b, o, none⟩ = w.cell? ⟨b, o, none⟩ := fun o ho => hc.cell b o fun q => ho q.2
  exact ⟨by rw [hcc _ (by omega)]; exact h.c0, by rw [hcc _ (by omega)]; exact h.c1, by rw [hcc _ (by omega)]; exact h.c2, by rw [hcc _ (by omega)]; exact h.c3, by rw [hcc _ (by omega)]; exact h.c4, by rw [hcc _ (by omega)]; exact h.c5, by rw [hcc _ (by omega)]; exact h.c6, World.cell?_setCell_same' _ _ _ (by rw [h.c7]; rfl), by rw [hcc _ (by omega)]; exact h.c8, by rw [hcc _ (by omega)]; exact h.c9, by rw [hcc _ (by omega)]; exact h.c10, by rw [hcc _ (by omega)]; exact h.c11, by rw [hcc _ (by omega)]; exact h.c12, by rw [hcc _ (by omega)]; exact h.c13, by rw [hcc _ (by omega)]; exact h.c14, by rw [hcc _ (by omega)]; exact h.c15⟩
theorem PM.count {w w' : World} {b : Nat} {y : Lay} {s : Pace.St} {nw : Nat} {P : List Pace.Cmd} {c c' : Cn} {o : Nat} {v : Value} (h : PM w b y s nw P c) (hw : w' = w.setCell ⟨b, o, none⟩ v) (hPB : PB w' b s.q s.clock nw y.fv y.pv y.wb c') : ∃ y', PM w' b y' s nw P c' ∧ Step w w' y y' ∧ y'.B = y.B := by
  subst hw
  obtain ⟨y', h1, h2, h3, _⟩ := h.self (s' := s) (P' := P) (ch1 _ _ _ _) (fun o => by rw [World.frozen?_setCell]; exact h.fz o) hPB (row_kept h.rp fun g hg => Below.heap_setCell _ _ _ _ fun e => by
    have := h.tp g hg
    have e' : g = b := e
    rw [e', h.tb] at this; cases this) (.inl rfl) rfl (Nat.le_refl _) rfl (fun f hf => ⟨f, hf, rfl, rfl, rfl, rfl, rfl, h.fc f hf⟩)
  exact ⟨y', h1, h2, h3⟩
/-- What Enqueue answers. -/
def enqR (p : Pace.PS) (f l : Int) : Int :=
  match lookI p.st.fl f with
  | none => 5
  | some x => if l < 1 ∨ 1500 < l then 2 else if x.pk.length = 8 then 8 else 0
def enqP (p : Pace.PS) (f t l : Int) : Pace.PS := if enqR p f l = 0 then p.enq f.toNat t l.toNat else p
def enqC (p : Pace.PS) (f l : Int) (c : Cn) : Cn := if enqR p f l = 0 then { c with taken := c.taken + 1 } else { c with refused := c.refused + 1 }
theorem pa_enq_no {w : World} {b : Nat} {y : Lay} {p : Pace.PS} {c : Cn} (h : PA w b y p c) (hc : c.refused < 8000000000000000000) (f t l er : Int) (her : er ≠ 0) (hr : enqR p f l = er) (hT : Calls Tryd.prog 51 #[.pointer (some ⟨b, 0, none⟩), .int .i64 f, .int .i64 t, .int .i64 l] w fun e w' => e = .returned (.int .i64 er) ∧ w' = w) :
    Calls Tryd.prog 23 #[.pointer (some ⟨b, 0, none⟩), .int .i64 f, .int .i64 t, .int .i64 l] w fun e w' => e = .returned (.int .i64 (enqR p f l)) ∧ ∃ y', PA w' b y' (enqP p f t l) (enqC p f l c) ∧ Stp w w' y y' := by
  obtain ⟨P, hM, hI, hS, hSh⟩ := h
  refine (enq_bad b f t l er c.refused w her hT hM.pb.c7 (hM.fz 7) (by omega)).mono ?_
  rintro e w' ⟨rfl, rfl⟩
  have hne : ¬ enqR p f l = 0 := by rw [hr]; exact her
  obtain ⟨y1, hP1, hs1, _⟩ := hM.count (w' := w.setCell ⟨b, 7, none⟩ (.int .i64 ((c.refused : Int) + 1))) (c' := { c with refused := c.refused + 1 }) rfl (by
    have := hM.pb.refused (c.refused + 1)
    rw [show ((c.refused + 1 : Nat) : Int) = (c.refused : Int) + 1 by omega] at this
    exact this)
  refine ⟨by rw [hr], y1, ?_, hs1.stp⟩
  unfold enqP enqC
  rw [if_neg hne, if_neg hne]
  exact ⟨P, hP1, hI, hS, hSh⟩
/-- Enqueue. -/
theorem pa_enq {w : World} {b : Nat} {y : Lay} {p : Pace.PS} {c : Cn} (h : PA w b y p c) (hc : c.refused < 8000000000000000000) (hc' : c.taken < 8000000000000000000) (f t l : Int) :
    Calls Tryd.prog 23 #[.pointer (some ⟨b, 0, none⟩), .int .i64 f, .int .i64 t, .int .i64 l] w fun e w' => e = .returned (.int .i64 (enqR p f l)) ∧ ∃ y', PA w' b y' (enqP p f t l) (enqC p f l c) ∧ Stp w w' y y' := by
  have hPA := h
  obtain ⟨P, hM, hI, hS, hSh⟩ := h
  have hV := pm_live hM hI.few f
  have hnd := hI.pi.wf.nums
  cases hl : lookI p.st.fl f with
  | none =>
    unfold lookI at hl
    rw [hl] at hV
    exact pa_enq_no hPA hc f t l 5 (by omega) (by unfold enqR lookI; rw [hl]) (take_none b f t l w hV)
  | some x =>
    obtain ⟨hx, hxf, hlk, hft⟩ := lookI_some hl hnd
    have hl' := hl
    unfold lookI at hl
    rw [hl] at hV
    have hV : Calls Tryd.prog 49 #[.pointer (some ⟨b, 0, none⟩), .int .i64 f] w fun e w' => w' = w ∧ e = .returned (liveV (some (y.B x.num))) := hV
    by_cases hb : l < 1 ∨ 1500 < l
    · exact pa_enq_no hPA hc f t l 2 (by omega) (by unfold enqR; rw [hl']; simp only; rw [if_pos hb]) (take_big b _ f t l w hV hb)
    · obtain ⟨h1, h2, h3, h4⟩ := hM.at_flow hlk
      by_cases h8 : x.pk.length = 8
      · obtain ⟨a, cc, hv⟩ := row_len h1.row
        exact pa_enq_no hPA hc f t l 8 (by omega) (by unfold enqR; rw [hl']; simp only; rw [if_neg hb, if_pos h8]) (take_full b _ f t l a cc w hV (by omega) (by omega) (by rw [h1.c5, hv, h8]))
      · have h80 : P.length ≤ 80 := short80 hS.inv.pi hSh hI.few
        have hFx := hI.pi.wf.F x hx
        have hfew := hFx.few
        have hR : enqR p f l = 0 := by unfold enqR; rw [hl']; simp only; rw [if_neg hb, if_neg h8]
        have hxb : y.B x.num ≠ b := fun e => by rw [e, hM.tb] at h4; cases h4
        have hvt : ∀ g, (y.V x.num).ownBlock = some g → y.tag g = .pk x.num := fun g hg => hM.tk x hx g hg
        refine (enq_good b f t l c.taken w (fun w1 => TakeP w w1 b (y.B x.num) x.pk.length P.length t l (y.V x.num) y.pv (pkC x.pk) (cmdsC y.B P)) (take_good b (y.B x.num) x.pk.length P.length f t l (y.V x.num) y.pv (pkC x.pk) (cmdsC y.B P) w hV (by omega) (by omega) (by omega) (by omega) h1.c5 hM.pb.c4 h1.fz hM.fz hxb h1.row hM.rp h3 (fun e => by have := hvt b e; rw [hM.tb] at this; cases this) (fun e => by have := hM.tp _ e; rw [h4] at this; cases this) (pv_ne_b hM) (fun g hg e => by have a1 := hvt g hg; have a2 := hM.tp g e; rw [a1] at a2; cases a2)) ?_ (by omega)).mono ?_
        all_goals
          have key : ∀ w1, TakeP w w1 b (y.B x.num) x.pk.length P.length t l (y.V x.num) y.pv (pkC x.pk) (cmdsC y.B P) → ∃ y2, PM w1 b y2 (p.enq x.num t l.toNat).st p.newest (P ++ [Pace.Cmd.enq x.num]) c ∧ Step w w1 y y2 := by
            rintro w1 ⟨v', pv', w2, w4, hrv, hG1, hrp, hG2, rfl⟩
            have hxl : y.B x.num < w.heap.size := hM.lt _ (hM.own_of h4 (by simp))
            have hs0 : (w.alloc (.cells #[.int .i64 t, .int .i64 l] 102)).heap.size = w.heap.size + 1 := by simp
            have hx2 : w2.heap[y.B x.num]? = w.heap[y.B x.num]? := (hG1.fr.blk _ (by omega) h3).trans (Below.heap_alloc _ _ _ (by omega))
            have hch : Ch w2 (w2.setCell ⟨y.B x.num, 5, none⟩ v') (fun a o => a = y.B x.num ∧ o = 5) := (Ch.refl w2 _).setCell ⟨rfl, rfl⟩ _
            have hcc : ∀ o, o ≠ 5 → (w2.setCell ⟨y.B x.num, 5, none⟩ v').cell? ⟨y.B x.num, o, none⟩ = w.cell? ⟨y.B x.num, o, none⟩ := fun o ho => (hch.cell _ o fun q => ho q.2).trans (World.cell?_of_block (w := w) (a := ⟨y.B x.num, o, none⟩) hx2)
            have hnew : ∀ g, v'.ownBlock = some g → (y.V x.num).ownBlock = some g ∨ w.heap.size ≤ g := fun g hg => by
              rcases hG1.new hg with q | q
              · exact .inl q
              · exact .inr (by omega)
            have hpk : pkC x.pk ++ [.int .i64 t, .int .i64 l] = pkC (Pace.withPk t l.toNat x).pk := by
              show _ = pkC (x.pk ++ [(t, l.toNat)])
              simp [pkC]
              omega
            have hFA : FA (w2.setCell ⟨y.B x.num, 5, none⟩ v') (y.B x.num) (Pace.withPk t l.toNat x) (y.cr x.num) (y.rk x.num) (y.bt x.num) v' := by
              refine ⟨by rw [hcc 0 (by omega)]; exact h1.c0, by rw [hcc 1 (by omega)]; exact h1.c1, by rw [hcc 2 (by omega)]; exact h1.c2, by rw [hcc 3 (by omega)]; exact h1.c3, by rw [hcc 4 (by omega)]; exact h1.c4, ?_, by rw [hcc 6 (by omega)]; exact h1.c6, by rw [hcc 7 (by omega)]; exact h1.c7, ?_, ?_⟩
              · refine World.cell?_setCell_same' _ _ _ ?_
                rw [World.cell?_of_block (w := w) (a := ⟨y.B x.num, 5, none⟩) hx2, h1.c5]; rfl
              · have e1 : (Pace.withPk t l.toNat x).pk.length = x.pk.length + 1 := by show (x.pk ++ [_]).length = _; simp
                rw [e1, ← hpk]
                refine row_kept0 hrv fun g hg => Below.heap_setCell _ _ _ _ fun e => ?_
                have e' : g = y.B x.num := e
                rcases hnew g hg with q | q
                · rw [e'] at q; exact h3 q
                · omega
              · intro o; rw [World.frozen?_setCell, frozen_of hx2 o]; exact h1.fz o
            have hfr : Fr w (w2.setCell ⟨y.B x.num, 5, none⟩ v') (fun k => y.tag k = .flow x.num ∨ y.tag k = .pk x.num) := (((Fr.refl w _).alloc _).trans hG1.fr fun k _ q => .inr (hvt k q)).trans (hch.fr2 (O := fun k => k = y.B x.num) fun a o q => q.1) fun k _ q => .inl (by rw [q]; exact h4)
            obtain ⟨y1, hP1, hs1, b1, b2, b3, b4, b5⟩ := hM.flow (f' := Pace.withPk t l.toNat x) hlk rfl hfr hFA ⟨h2.rle, h2.cle, h2.eq⟩ hnew (fun a ha q => by rw [← q]; exact hM.ak a ha)
            rw [← upd_const hnd hlk (Pace.withPk t l.toNat)] at hP1
            obtain ⟨y2, hP2, hs2, _⟩ := pm_push hP1 (Pace.Cmd.enq x.num) (pv' := pv') (by rw [b1]; exact hrp) (by rw [b5]; exact hG2)
            exact ⟨y2, hP2, hs1.trans hs2⟩
        · intro w1 hw1
          obtain ⟨y2, hP2, _⟩ := key w1 hw1
          exact ⟨hP2.pb.c6, hP2.fz 6⟩
        · rintro e w' ⟨rfl, w1, hw1, rfl⟩
          obtain ⟨y2, hP2, hs2⟩ := key w1 hw1
          obtain ⟨y3, hP3, hs3, _⟩ := hP2.count (w' := w1.setCell ⟨b, 6, none⟩ (.int .i64 ((c.taken : Int) + 1))) (c' := { c with taken := c.taken + 1 }) rfl (by
            have := hP2.pb.taken (c.taken + 1)
            rw [show ((c.taken + 1 : Nat) : Int) = (c.taken : Int) + 1 by omega] at this
            exact this)
          refine ⟨by rw [hR], y3, ?_, (hs2.trans hs3).stp⟩
          unfold enqP enqC
          rw [if_pos hR, if_pos hR, hft]
          have hex : ∃ z ∈ p.st.fl, z.num = x.num := ⟨x, hx, rfl⟩
          have hl8 : ∀ z ∈ p.st.fl, z.num = x.num → z.pk.length < 8 := fun z hz e => by
            have := Pace.look_of_mem hnd hz
            rw [e, hlk] at this
            injection this with this
            subst this
            omega
          exact ⟨P ++ [Pace.Cmd.enq x.num], hP3, hI.enq t hex (by omega) hl8, hS.enq t hex (by omega) hl8, hSh.snoc fun _ => rfl⟩
end Go.Proofs.YtogdekjklbbbiaaDoor

namespace Go.Proofs.YtogdekjklbbbiaaDoor
open Go.ChangeShapes Go.WideShapes Go.ChangeAt Go.RowKit
set_option linter.unusedSimpArgs false
set_option linter.unusedVariables false

set_option maxHeartbeats 1000000 in
theorem delf78_nil (z y : Addr) (a : Option Addr) (cap : Nat) (w : World) : Calls Tryd.prog 54 #[.slice a 0 cap, .func (.func 78) #[] #[.pointer (some z), .pointer (some y)]] w fun e w' => e = .returned (.slice a 0 cap) ∧ Fr w w' (fun _ => False) := by
  have hI := idx78_walk 0 cap 0 z y a (fun _ => 0) (fun _ => 0) (fun _ => 0) (fun _ => 0) (fun _ => 0) (fun _ => false) (fun _ => False) w (fun _ _ => True) (by omega) trivial (fun _ q => q.elim) (fun q => q) (fun q => absurd q (by omega)) (fun k hk => absurd hk (by omega)) (fun k W _ hk => absurd hk (by omega))
  have HI := hide hI
  clear hI
  go_enter Tryd.func54, Tryd.ntmps54
  go_wp2_with fail
  refine (unhide HI).mono ?_
  rintro e w1 ⟨hF1, ⟨i, hin, rfl, hdi, hlt, hR1⟩ | ⟨rfl, hall, hR1⟩⟩
  · omega
  · have HF1 := hide hF1
    clear hF1 hall hR1
    go_wp2_with fail
    go_ret
    exact ⟨rfl, unhide HF1⟩
set_option maxHeartbeats 1000000 in
theorem delf55_nil (z : Addr) (a : Option Addr) (cap : Nat) (w : World) : Calls Tryd.prog 54 #[.slice a 0 cap, .func (.func 55) #[] #[.pointer (some z)]] w fun e w' => e = .returned (.slice a 0 cap) ∧ Fr w w' (fun _ => False) := by
  have hI := idx55_walk 0 cap 0 z a (fun _ => 0) (fun _ => 0) (fun _ => 0) (fun _ => 0) (fun _ => 0) (fun _ => false) (fun _ => False) w (fun _ _ => True) (by omega) trivial (fun _ q => q.elim) (fun q => q) (fun q => absurd q (by omega)) (fun k hk => absurd hk (by omega)) (fun k W _ hk => absurd hk (by omega))
  have HI := hide hI
  clear hI
  go_enter Tryd.func54, Tryd.ntmps54
  go_wp2_with fail
  refine (unhide HI).mono ?_
  rintro e w1 ⟨hF1, ⟨i, hin, rfl, hdi, hlt, hR1⟩ | ⟨rfl, hall, hR1⟩⟩
  · omega
  · have HF1 := hide hF1
    clear hF1 hall hR1
    go_wp2_with fail
    go_ret
    exact ⟨rfl, unhide HF1⟩
theorem range_nth : ∀ P : List Pace.Cmd, P = (List.range P.length).map (nthC P) := by
  intro P
  apply List.ext_getElem?
  intro k
  rw [List.getElem?_map]
  by_cases h : k < P.length
  · rw [List.getElem?_range h, nthC_get h]; rfl
  · rw [List.getElem?_eq_none (by omega), List.getElem?_eq_none (by simp; omega)]; rfl
theorem kept_cmds (B : Nat → Nat) (P : List Pace.Cmd) (q : Pace.Cmd → Bool) :
    cells5of (fun k => .int .i64 (kdC (nthC P k))) (fun k => .pointer (some ⟨B (nthC P k).flow, 0, none⟩)) (fun k => .int .i64 (rC (nthC P k))) (fun k => .int .i64 (buC (nthC P k))) (fun k => .int .i64 (lC (nthC P k))) (keptN (fun k => q (nthC P k)) P.length) = cmdsC B (P.filter fun c => !q c) ∧
    (keptN (fun k => q (nthC P k)) P.length).length = (P.filter fun c => !q c).length := by
  have e : P.filter (fun c => !q c) = (keptN (fun k => q (nthC P k)) P.length).map (nthC P) := by
    conv => lhs; rw [range_nth P]
    rw [List.filter_map]
    rfl
  refine ⟨?_, by rw [e, List.length_map]⟩
  rw [e]
  unfold cells5of cmdsC
  rw [List.flatMap_map]
  exact flat_congr fun k _ => (cmdC_eq B (nthC P k)).symm
theorem leastIn_append (f : Nat) : ∀ (m : Option Nat) (a b : List Pace.Cmd), Pace.leastIn f m (a ++ b) = Pace.leastIn f (Pace.leastIn f m a) b
  | m, [], b => rfl
  | m, .set g r u l :: a, b => leastIn_append f _ a b
  | m, .add g r u :: a, b => leastIn_append f m a b
  | m, .enq g :: a, b => leastIn_append f m a b
/-- The least so far. -/
def lst (bu n : Nat) (P : List Pace.Cmd) (k : Nat) : Nat := Pace.leastOf bu (Pace.leastIn n none (P.take k))
theorem lst_zero (bu n : Nat) (P : List Pace.Cmd) : lst bu n P 0 = bu := rfl
theorem lst_succ {bu n k : Nat} {P : List Pace.Cmd} (hk : k < P.length) : lst bu n P (k + 1) = if Pace.isSet n (nthC P k) = true then min (lst bu n P k) (lC (nthC P k)).toNat else lst bu n P k := by
  unfold lst
  rw [take_nth hk, leastIn_append]
  cases nthC P k with
  | add g r u => rfl
  | enq g => rfl
  | set g r u l =>
    by_cases e : g = n
    · subst e
      simp only [Pace.leastIn, Pace.isSet, if_true, beq_self_eq_true, lC]
      cases Pace.leastIn g none (P.take k) with
      | none => simp [Pace.leastOf]
      | some j => simp only [Pace.leastOf]; simp; omega
    · simp [Pace.leastIn, Pace.isSet, e]
theorem PB.pendC {w w' : World} {b q ck nw : Nat} {fv pv : Value} {wb : Nat} {c : Cn} (h : PB w b q ck nw fv pv wb c) (hc : Ch w w' (fun a o => a = b ∧ o = 4)) {pv' : Value} (h4 : w'.cell? ⟨b, 4, none⟩ = some pv') : PB w' b q ck nw fv pv' wb c := by
  have hcc : ∀ o, o ≠ 4 → w'.cell? ⟨b, o, none⟩ = w.cell? ⟨b, o, none⟩ := fun o ho => hc.cell b o fun q => ho q.2
  exact ⟨by rw [hcc _ (by omega)]; exact h.c0, by rw [hcc _ (by omega)]; exact h.c1, by rw [hcc _ (by omega)]; exact h.c2, by rw [hcc _ (by omega)]; exact h.c3, h4, by rw [hcc _ (by omega)]; exact h.c5, by rw [hcc _ (by omega)]; exact h.c6, by rw [hcc _ (by omega)]; exact h.c7, by rw [hcc _ (by omega)]; exact h.c8, by rw [hcc _ (by omega)]; exact h.c9, by rw [hcc _ (by omega)]; exact h.c10, by rw [hcc _ (by omega)]; exact h.c11, by rw [hcc _ (by omega)]; exact h.c12, by rw [hcc _ (by omega)]; exact h.c13, by rw [hcc _ (by omega)]; exact h.c14, by rw [hcc _ (by omega)]; exact h.c15⟩
theorem pm_pushC {w w4 w' : World} {b : Nat} {y : Lay} {s : Pace.St} {nw : Nat} {P : List Pace.Cmd} {c : Cn} (h : PM w b y s nw P c) (cm : Pace.Cmd) {o : Obj} {pv' : Value} (hr : w4.ownsRow 0 136 5 pv' (P.length + 1) (cmdsC y.B P ++ cmdC y.B cm)) (hg : Gr (w.alloc o) w4 y.pv pv') (hc : Ch w4 w' (fun a o => a = b ∧ o = 4)) (h4 : w'.cell? ⟨b, 4, none⟩ = some pv') :
    ∃ y', PM w' b y' s nw (P ++ [cm]) c ∧ Step w w' y y' ∧ y'.B = y.B := by
  have hfr0 : Fr w (w.alloc o) (fun k => k = b ∨ y.pv.ownBlock = some k) := (Fr.refl _ _).alloc o
  have hb : b < w.heap.size := h.lt b h.ow
  have hb4 : w4.heap[b]? = w.heap[b]? := by
    refine (hg.fr.blk b (by simp; omega) (pv_ne_b h)).trans ?_
    exact Below.heap_alloc _ _ _ (by omega)
  have hPB4 : PB w4 b s.q s.clock nw y.fv y.pv y.wb c := h.pb.kept hb4
  have hfr : Fr w w' (fun k => k = b ∨ y.pv.ownBlock = some k) := (hfr0.trans hg.fr fun k _ q => .inr q).trans (hc.fr2 (O := fun k => k = b) fun a o q => q.1) fun k _ q => .inl q
  have hsz : (w.alloc o).heap.size = w.heap.size + 1 := by simp
  have hnew : ∀ g, pv'.ownBlock = some g → y.pv.ownBlock = some g ∨ w.heap.size ≤ g := fun g hgg => by
    rcases hg.new hgg with q | q
    · exact .inl q
    · exact .inr (by omega)
  refine h.pendG (P' := P ++ [cm]) hfr (fun o' => by rw [hc.fz, frozen_of hb4]; exact h.fz o') (hPB4.pendC hc h4) ?_ hnew
  rw [List.length_append, List.length_singleton, cmdsC_snoc]
  refine row_kept0 hr fun g hgg => hc.blk g fun o' q => ?_
  have e' : g = b := q.1
  rcases hnew g hgg with q | q
  · rw [e'] at q; exact pv_ne_b h q
  · omega
theorem row_uniq {w : World} {n0 e sz n n' : Nat} {v : Value} {xs xs' : List Value} (h : w.ownsRow n0 e sz v n xs) (h' : w.ownsRow n0 e sz v n' xs') : n = n' ∧ xs = xs' := by
  rcases h.2 with ⟨q1, q2⟩ | ⟨g, cap, cur, q1, q2, q3, q4, q5, q6, q7⟩ <;> rcases h'.2 with ⟨r1, r2⟩ | ⟨g', cap', cur', r1, r2, r3, r4, r5, r6, r7⟩
  · subst q2; subst r2
    have a1 := h.1; have a2 := h'.1
    simp at a1 a2
    exact ⟨rfl, by rw [a1, a2]⟩
  · rw [q1] at r1; cases r1
  · rw [q1] at r1; cases r1
  · rw [q1] at r1
    injection r1 with r1 r1b r1c
    injection r1 with r1
    injection r1 with r1
    subst r1; subst r1b
    rw [q3] at r3
    injection r3 with r3
    injection r3 with r3
    subst r3
    exact ⟨rfl, by rw [← q7, ← r7]⟩
end Go.Proofs.YtogdekjklbbbiaaDoor

namespace Go.Proofs.YtogdekjklbbbiaaDoor
open Go.ChangeShapes Go.WideShapes Go.ChangeAt Go.RowKit
set_option linter.unusedSimpArgs false
set_option linter.unusedVariables false

def setR (p : Pace.PS) (f r bu : Int) : Int :=
  match lookI p.st.fl f with
  | none => 5
  | some x => if Pace.allowed r bu then 0 else 6
def setP (p : Pace.PS) (f r bu : Int) : Pace.PS := if setR p f r bu = 0 then p.set f.toNat r.toNat bu.toNat else p
/-- What stands in the midst of a DeleteFunc of pendSet. -/
structure SR (w : World) (y : Lay) (x : Nat) (r bu : Int) (l : Nat) (W : World) : Prop where
  sz : w.heap.size + 2 ≤ W.heap.size
  z : W.heap[w.heap.size]? = some (.cells #[.pointer (some ⟨x, 0, none⟩)] 132)
  nx : W.heap[w.heap.size + 1]? = some (.cells #[.int .i64 1, .pointer (some ⟨x, 0, none⟩), .int .i64 r, .int .i64 bu, .int .i64 (l : Int)] 136)
  fl : ∀ k m, y.tag k = .flow m → W.heap[k]? = w.heap[k]?
theorem SR.fr {w : World} {y : Lay} {x : Nat} {r bu : Int} {l : Nat} {W W' : World} (h : SR w y x r bu l W) {O : Nat → Prop} (hf : Fr W W' O) (hO : ¬ O w.heap.size ∧ ¬ O (w.heap.size + 1)) (ho : ∀ k m, y.tag k = .flow m → k < w.heap.size ∧ ¬ O k) : SR w y x r bu l W' := by
  have hsz := h.sz
  refine ⟨Nat.le_trans h.sz hf.size, (hf.blk _ (by omega) hO.1).trans h.z, (hf.blk _ (by omega) hO.2).trans h.nx, fun k m e => (hf.blk k (by have := (ho k m e).1; omega) (ho k m e).2).trans (h.fl k m e)⟩
/-- Set, of a flow that lives. -/
theorem pm_set {w : World} {b : Nat} {y : Lay} {s : Pace.St} {nw : Nat} {P : List Pace.Cmd} {c : Cn} (h : PM w b y s nw P c) (hi : Pace.PI s P) (h80 : P.length ≤ 80) {x : Pace.Fl} (hx : x ∈ s.fl) (r bu : Nat) (hb : bu ≤ 1000000) :
    Calls Tryd.prog 50 #[.pointer (some ⟨b, 0, none⟩), .pointer (some ⟨y.B x.num, 0, none⟩), .int .i64 (r : Int), .int .i64 (bu : Int)] w fun e w' => e = .returned (.tuple #[]) ∧ ∃ y', PM w' b y' s nw (P.filter (fun c => !Pace.isSet x.num c) ++ [.set x.num r bu (Pace.leastOf bu (Pace.leastIn x.num none P))]) c ∧ Step w w' y y' := by
  have hbl : b < w.heap.size := h.lt b h.ow
  have htx := h.tl x hx
  have hxl : y.B x.num < w.heap.size := h.lt _ (h.own_of htx (by simp))
  have hfl : ∀ k m, y.tag k = .flow m → k < w.heap.size := fun k m e => h.lt k (h.own_of e (by simp))
  have hls : lst bu x.num P P.length = Pace.leastOf bu (Pace.leastIn x.num none P) := by unfold lst; rw [List.take_length]
  generalize hW0 : ((w.alloc (.cells #[.pointer (some ⟨y.B x.num, 0, none⟩)] 132)).alloc (.cells #[.int .i64 1, .pointer (some ⟨y.B x.num, 0, none⟩), .int .i64 (r : Int), .int .i64 (bu : Int), .int .i64 (bu : Int)] 136)) = W0
  have hs0 : W0.heap.size = w.heap.size + 2 := by rw [← hW0]; simp
  have hfr0 : Fr w W0 (fun _ => False) := by rw [← hW0]; exact ((Fr.refl _ _).alloc _).alloc _
  have hz0 : W0.heap[w.heap.size]? = some (.cells #[.pointer (some ⟨y.B x.num, 0, none⟩)] 132) := by
    rw [← hW0, Below.heap_alloc _ _ _ (by simp)]
    exact heap_alloc_new _ _
  have hn0 : W0.heap[w.heap.size + 1]? = some (.cells #[.int .i64 1, .pointer (some ⟨y.B x.num, 0, none⟩), .int .i64 (r : Int), .int .i64 (bu : Int), .int .i64 (bu : Int)] 136) := by
    rw [← hW0]
    have := heap_alloc_new (w.alloc (.cells #[.pointer (some ⟨y.B x.num, 0, none⟩)] 132)) (.cells #[.int .i64 1, .pointer (some ⟨y.B x.num, 0, none⟩), .int .i64 (r : Int), .int .i64 (bu : Int), .int .i64 (bu : Int)] 136)
    simpa using this
  have hSR0 : SR w y (y.B x.num) (r : Int) (bu : Int) bu W0 := ⟨by omega, hz0, hn0, fun k m e => hfr0.blk k (hfl k m e) (fun q => q)⟩
  -- what DeleteFunc does
  have hDel : Calls Tryd.prog 54 #[y.pv, .func (.func 78) #[] #[.pointer (some ⟨w.heap.size, 0, none⟩), .pointer (some ⟨w.heap.size + 1, 0, none⟩)]] W0 fun e w' => ∃ v', e = .returned v' ∧
      (w'.ownsRow 0 136 5 v' (P.filter fun c => !Pace.isSet x.num c).length (cmdsC y.B (P.filter fun c => !Pace.isSet x.num c)) ∧ v'.ownBlock = y.pv.ownBlock ∧ SR w y (y.B x.num) (r : Int) (bu : Int) (lst bu x.num P P.length) w' ∧ Fr w w' (fun k => y.pv.ownBlock = some k)) := by
    rcases h.rp.2 with ⟨q1, q2⟩ | ⟨g, cap, cur, q1, _, q3, q4, q5, q6, q7⟩
    · have hP : P = [] := List.length_eq_zero_iff.1 q2
      subst hP
      rw [q1]
      refine (delf78_nil _ _ none 0 W0).mono ?_
      rintro e w' ⟨rfl, hf⟩
      refine ⟨_, rfl, World.ownsRow_nil _ _ _ _, rfl, hSR0.fr hf ⟨fun q => q, fun q => q⟩ (fun k m e => ⟨hfl k m e, fun q => q⟩), (hfr0.trans hf fun _ _ q => q.elim).weak fun _ _ q => q.elim⟩
    · have hgt : y.tag g = .rowP := h.tp g (by rw [q1]; rfl)
      have hgl : g < w.heap.size := h.lt g (h.own_of hgt (by simp))
      have hgo : y.pv.ownBlock = some g := by rw [q1]; rfl
      by_cases hP0 : P.length = 0
      · have hP : P = [] := List.length_eq_zero_iff.1 hP0
        subst hP
        rw [q1]
        refine (delf78_nil _ _ (some ⟨g, 0, none⟩) cap W0).mono ?_
        rintro e w' ⟨rfl, hf⟩
        refine ⟨_, rfl, ?_, rfl, hSR0.fr hf ⟨fun q => q, fun q => q⟩ (fun k m e => ⟨hfl k m e, fun q => q⟩), (hfr0.trans hf fun _ _ q => q.elim).weak fun _ _ q => q.elim⟩
        have := row_kept0 h.rp fun g' hg' => (hfr0.trans hf (fun _ _ q => q.elim)).blk g' (h.rp.lt g' hg').2 (fun q => q)
        rw [q1] at this
        exact this
      · rw [q1]
        have hg0 : W0.heap[g]? = some (.cells cur 136 (0, 0)) := (hfr0.blk g hgl fun q => q).trans q3
        refine (delf78_walk g cap P.length ⟨w.heap.size, 0, none⟩ ⟨w.heap.size + 1, 0, none⟩ cur (fun k => kdC (nthC P k)) (fun k => rC (nthC P k)) (fun k => buC (nthC P k)) (fun k => lC (nthC P k)) (fun k => y.B (nthC P k).flow) (fun k => Pace.isSet x.num (nthC P k)) (fun k => k = w.heap.size + 1) W0 (fun k W => SR w y (y.B x.num) (r : Int) (bu : Int) (lst bu x.num P k) W) (by omega) (by omega) q4 q5 hSR0 (fun z hz => by omega) (by omega) hg0 q6 ?_ ?_ ?_ ?_).mono ?_
        · intro k hk
          have hg := nthC_get hk
          have hcm := cmdC_eq y.B (nthC P k)
          have hget : ∀ j v, (cmdC y.B (nthC P k))[j]? = some v → cur[k * 5 + j]? = some v := fun j v hj => by
            have := cmdsC_get y.B P k _ j v hg hj
            rw [← q7, List.getElem?_take] at this
            split at this
            · simpa using this
            · cases this
          exact ⟨hget 0 _ (by rw [hcm]; rfl), hget 1 _ (by rw [hcm]; rfl), hget 2 _ (by rw [hcm]; rfl), hget 3 _ (by rw [hcm]; rfl), hget 4 _ (by rw [hcm]; rfl)⟩
        · intro k W o hR
          exact hR.fr (O := fun _ => False) ((Fr.refl _ _).alloc o) ⟨fun q => q, fun q => q⟩ (fun k m e => ⟨hfl k m e, fun q => q⟩)
        · intro k W W' hR hsz hj hsz' ho ht hu
          refine hR.fr (O := fun z => z = g) ⟨ho, ht, hu, by omega, fun z _ hz => hj z hz⟩ ⟨by omega, by omega⟩ (fun z m e => ⟨hfl z m e, fun q => ?_⟩)
          rw [q, hgt] at e; cases e
        · intro k W hR hk
          have hlv := hi.live (nthC P k) (List.mem_of_getElem? (nthC_get hk))
          obtain ⟨xf, hxf, hxn⟩ := hlv
          have htf := h.tl xf hxf
          rw [hxn] at htf
          have hcellx : ∀ z m, y.tag z = .flow m → (∃ f ∈ s.fl, y.B f.num = z) → (∃ v, W.cell? ⟨z, 0, none⟩ = some v) ∧ ∀ o, W.frozen? ⟨z, o, none⟩ = false := by
            rintro z m e ⟨f, hf, rfl⟩
            have hFf := h.fl f hf
            have hb := hR.fl _ m e
            exact ⟨⟨_, (World.cell?_of_block (w := w) (a := ⟨y.B f.num, 0, none⟩) hb).trans hFf.c0⟩, fun o => (frozen_of hb o).trans (hFf.fz o)⟩
          have hzc : W.cell? ⟨w.heap.size, 0, none⟩ = some (.pointer (some ⟨y.B x.num, 0, none⟩)) := by rw [heap_cell hR.z]; rfl
          have hls1 := lst_succ (bu := bu) (n := x.num) hk
          show Calls Tryd.prog 78 #[.agg #[.int .i64 (kdC (nthC P k)), .pointer (some ⟨y.B (nthC P k).flow, 0, none⟩), .int .i64 (rC (nthC P k)), .int .i64 (buC (nthC P k)), .int .i64 (lC (nthC P k))], _, _] W fun e w' => e = .returned (.bool (Pace.isSet x.num (nthC P k))) ∧ _
          have hall : ∀ o, SR w y (y.B x.num) (r : Int) (bu : Int) (lst bu x.num P k) (W.alloc o) := fun o => hR.fr (O := fun _ => False) ((Fr.refl _ _).alloc o) ⟨fun q => q, fun q => q⟩ (fun k m e => ⟨hfl k m e, fun q => q⟩)
          have hfa : ∀ o, Fr W (W.alloc o) (fun k => k = w.heap.size + 1) := fun o => (Fr.refl _ _).alloc o
          generalize hcm : nthC P k = cm at hls1 htf hxn ⊢
          cases cm with
          | add g' r' u' =>
            refine (clo78_other _ _ _ _ _ _ _ W (by simp [kdC])).mono ?_
            rintro e w' ⟨rfl, rfl⟩
            rw [hls1]
            exact ⟨rfl, hall _, hfa _⟩
          | enq g' =>
            refine (clo78_other _ _ _ _ _ _ _ W (by simp [kdC])).mono ?_
            rintro e w' ⟨rfl, rfl⟩
            rw [hls1]
            exact ⟨rfl, hall _, hfa _⟩
          | set g' r' u' l' =>
            by_cases e : g' = x.num
            · subst e
              have hok := hi.ok _ (List.mem_of_getElem? (nthC_get hk))
              rw [hcm] at hok
              have hny : W.cell? ⟨w.heap.size + 1, 4, none⟩ = some (.int .i64 ((lst bu x.num P k : Nat) : Int)) := by rw [heap_cell hR.nx]; rfl
              refine (clo78_eq (y.B x.num) w.heap.size (w.heap.size + 1) r' u' l' ((lst bu x.num P k : Nat) : Int) W hzc hny (fz_cells hR.nx 4)).mono ?_
              rintro e w' ⟨rfl, hf, hy'⟩
              have hsetb : Pace.isSet x.num (.set x.num r' u' l') = true := by simp [Pace.isSet]
              rw [hls1, if_pos hsetb]
              have hsz := hR.sz
              refine ⟨by rw [hsetb], ⟨Nat.le_trans hR.sz hf.size, (hf.blk _ (by omega) (by omega)).trans hR.z, ?_, fun z m e => (hf.blk z (by have := hfl z m e; omega) (by have := hfl z m e; omega)).trans (hR.fl z m e)⟩, hf⟩
              rw [hy', set1 hR.nx]
              have : (min ((lst bu x.num P k : Nat) : Int) ((l' : Nat) : Int)) = ((min (lst bu x.num P k) (lC (.set x.num r' u' l')).toNat : Nat) : Int) := by simp only [lC]; omega
              rw [this]
              rfl
            · have hne : y.B g' ≠ y.B x.num := fun e' => by
                have h1 : y.tag (y.B g') = .flow g' := htf
                rw [e', htx] at h1
                injection h1 with h1
                exact e h1.symm
              have hxn' : xf.num = g' := hxn
              refine (clo78_ne (y.B g') (y.B x.num) w.heap.size (w.heap.size + 1) r' u' l' W hne hzc (hcellx _ g' htf ⟨xf, hxf, by rw [hxn']⟩) (hcellx _ _ htx ⟨x, hx, rfl⟩)).mono ?_
              rintro e w' ⟨rfl, rfl⟩
              have hsetb : Pace.isSet x.num (.set g' r' u' l') = false := by simp [Pace.isSet, e]
              rw [hls1, if_neg (by rw [hsetb]; simp)]
              exact ⟨by rw [hsetb], hall _, hfa _⟩
        · rintro e w' ⟨v', rfl, d1, d2, d3, d4, d5, d6, d7, d8⟩
          obtain ⟨k1, k2⟩ := kept_cmds y.B P (Pace.isSet x.num)
          rw [k1, k2] at d1
          refine ⟨v', rfl, d1, by rw [d2]; rfl, d3, ⟨d6.trans hfr0.os, d7.trans hfr0.tape, d8.trans hfr0.output, by omega, fun k hk hn => ?_⟩⟩
          have hkg : k ≠ g := fun e => hn (by rw [e]; rfl)
          exact (d4 k (by omega) (by omega) hkg).trans (hfr0.blk k hk fun q => q)
  have hlsle : lst bu x.num P P.length ≤ 1000000 := by
    unfold lst
    cases Pace.leastIn x.num none (P.take P.length) with
    | none => exact hb
    | some j => simp only [Pace.leastOf]; omega
  refine (pend_walk b (y.B x.num) (r : Int) (bu : Int) ((lst bu x.num P P.length : Nat) : Int) y.pv w (fun v1 w1 => w1.ownsRow 0 136 5 v1 (P.filter fun c => !Pace.isSet x.num c).length (cmdsC y.B (P.filter fun c => !Pace.isSet x.num c)) ∧ v1.ownBlock = y.pv.ownBlock ∧ SR w y (y.B x.num) (r : Int) (bu : Int) (lst bu x.num P P.length) w1 ∧ Fr w w1 (fun k => y.pv.ownBlock = some k)) h.pb.c4 (by rw [hW0]; exact hDel) ?_).mono ?_
  · rintro v1 w1 ⟨a1, a2, a3, a4⟩
    have hb1 : w1.heap[b]? = w.heap[b]? := a4.blk b hbl (pv_ne_b h)
    have hfl80 : (P.filter fun c => !Pace.isSet x.num c).length ≤ P.length := List.length_filter_le _ _
    exact ⟨_, _, a1, by omega, ⟨_, (World.cell?_of_block (w := w) (a := ⟨b, 4, none⟩) hb1).trans h.pb.c4⟩, (frozen_of hb1 4).trans (h.fz 4), a3.nx, by rw [a2]; exact pv_ne_b h, by omega⟩
  · rintro e w' ⟨rfl, v1, w1, n, px, v2, w3, ⟨a1, a2, a3, a4⟩, hr1, hr3, hG, hch, hc4⟩
    refine ⟨rfl, ?_⟩
    obtain ⟨u1, u2⟩ := row_uniq hr1 a1
    subst u1; subst u2
    have hb1 : w1.heap[b]? = w.heap[b]? := a4.blk b hbl (pv_ne_b h)
    have hPB1 : PB w1 b s.q s.clock nw y.fv y.pv y.wb c := h.pb.kept hb1
    have hfr1 : Fr w (w1.setCell ⟨b, 4, none⟩ v1) (fun k => k = b ∨ y.pv.ownBlock = some k) := (a4.weak fun k _ q => .inr q).trans (ch1 w1 b 4 v1) fun k _ q => .inl q
    have hrow : (w1.setCell ⟨b, 4, none⟩ v1).ownsRow 0 136 5 v1 (P.filter fun c => !Pace.isSet x.num c).length (cmdsC y.B (P.filter fun c => !Pace.isSet x.num c)) := row_kept0 hr1 fun g hg => Below.heap_setCell _ _ _ _ fun e => by
      have e' : g = b := e
      rw [a2, e'] at hg
      exact pv_ne_b h hg
    have hpv1 : ∀ g, v1.ownBlock = some g → y.pv.ownBlock = some g ∨ w.heap.size ≤ g := fun g hg => .inl (by rw [← a2]; exact hg)
    obtain ⟨y1, hP1, hs1, e1, e2⟩ := h.pendG2 (P' := P.filter fun c => !Pace.isSet x.num c) (c' := c) hfr1 (fun o => by rw [World.frozen?_setCell, frozen_of hb1]; exact h.fz o) (hPB1.pend v1) hrow hpv1
    obtain ⟨y2, hP2, hs2, _⟩ := pm_pushC hP1 (.set x.num r bu (lst bu x.num P P.length)) (pv' := v2) (by
      rw [e1]
      exact hr3) (by rw [e2]; exact hG) hch hc4
    rw [hls] at hP2
    exact ⟨y2, hP2, hs1.trans hs2⟩
/-- Set. -/
theorem pa_set {w : World} {b : Nat} {y : Lay} {p : Pace.PS} {c : Cn} (h : PA w b y p c) (f r bu : Int) :
    Calls Tryd.prog 22 #[.pointer (some ⟨b, 0, none⟩), .int .i64 f, .int .i64 r, .int .i64 bu] w fun e w' => e = .returned (.int .i64 (setR p f r bu)) ∧ ∃ y', PA w' b y' (setP p f r bu) c ∧ Stp w w' y y' := by
  have hPA := h
  obtain ⟨P, hM, hI, hS, hSh⟩ := h
  have hV := pm_live hM hI.few f
  have hnd := hI.pi.wf.nums
  have h80 : P.length ≤ 80 := short80 hS.inv.pi hSh hI.few
  cases hl : lookI p.st.fl f with
  | none =>
    have hR : setR p f r bu = 5 := by unfold setR; rw [hl]
    unfold lookI at hl
    rw [hl] at hV
    refine (set_none b f r bu w hV).mono ?_
    rintro e w' ⟨rfl, rfl⟩
    refine ⟨by rw [hR], y, ?_, Stp.refl _ _⟩
    unfold setP
    rw [if_neg (by rw [hR]; omega)]; exact hPA
  | some x =>
    obtain ⟨hx, hxf, hlk, hft⟩ := lookI_some hl hnd
    have hl' := hl
    unfold lookI at hl
    rw [hl] at hV
    have hV : Calls Tryd.prog 49 #[.pointer (some ⟨b, 0, none⟩), .int .i64 f] w fun e w' => w' = w ∧ e = .returned (liveV (some (y.B x.num))) := hV
    by_cases hal : Pace.allowed r bu
    · have hR : setR p f r bu = 0 := by unfold setR; rw [hl']; simp only; rw [if_pos hal]
      obtain ⟨a1, a2, a3, a4⟩ := hal
      have hps := pm_set hM hS.inv.pi h80 hx r.toNat bu.toNat (by omega)
      rw [show ((r.toNat : Nat) : Int) = r by omega, show ((bu.toNat : Nat) : Int) = bu by omega] at hps
      refine (set_good b (y.B x.num) f r bu w _ hV ⟨a1, a2, a3, a4⟩ hps).mono ?_
      rintro e w' ⟨rfl, y', hP', hs'⟩
      refine ⟨by rw [hR], y', ?_, hs'.stp⟩
      unfold setP
      rw [if_pos hR, hft]
      have hex : ∃ z ∈ p.st.fl, z.num = x.num := ⟨x, hx, rfl⟩
      exact ⟨_, hP', hI.set hex (by omega) (by omega), hS.set hex (by omega) (by omega), hSh.set _ _ _ _⟩
    · have hR : setR p f r bu = 6 := by unfold setR; rw [hl']; simp only; rw [if_neg hal]
      refine (set_rate b (y.B x.num) f r bu w hV hal).mono ?_
      rintro e w' ⟨rfl, rfl⟩
      refine ⟨by rw [hR], y, ?_, Stp.refl _ _⟩
      unfold setP
      rw [if_neg (by rw [hR]; omega)]; exact hPA
/-- Add, and what it answers. -/
def addR (p : Pace.PS) (r bu : Int) : Int := if Pace.allowed r bu then if p.st.fl.length = 8 then 7 else 0 else 6
def addN (p : Pace.PS) (r bu : Int) : Int := if addR p r bu = 0 then (p.newest : Int) + 1 else 0
def addP (p : Pace.PS) (r bu : Int) : Pace.PS := if addR p r bu = 0 then p.add r.toNat bu.toNat else p
theorem pa_addR {w : World} {b : Nat} {y : Lay} {p : Pace.PS} {c : Cn} (h : PA w b y p c) (hnw : p.newest < 8000000000000000000) (r bu : Int) :
    Calls Tryd.prog 21 #[.pointer (some ⟨b, 0, none⟩), .int .i64 r, .int .i64 bu] w fun e w' => e = .returned (.tuple #[.int .i64 (addN p r bu), .int .i64 (addR p r bu)]) ∧ ∃ y', PA w' b y' (addP p r bu) c ∧ Stp w w' y y' := by
  have hPA := h
  obtain ⟨P, hM, hI, hS, hSh⟩ := h
  by_cases hal : Pace.allowed r bu
  · by_cases h8 : p.st.fl.length = 8
    · have hR : addR p r bu = 7 := by unfold addR; rw [if_pos hal, if_pos h8]
      obtain ⟨a, cc, hv⟩ := row_len hM.rf
      have hc3 := hM.pb.c3
      rw [hv, h8] at hc3
      refine (add_many b r bu a cc w hM.pb.c15 hc3 hal).mono ?_
      rintro e w' ⟨rfl, rfl⟩
      refine ⟨?_, y, ?_, Stp.refl _ _⟩
      · unfold addN; rw [hR, if_neg (by omega)]
      · unfold addP; rw [if_neg (by rw [hR]; omega)]; exact hPA
    · have hR : addR p r bu = 0 := by unfold addR; rw [if_pos hal, if_neg h8]
      have := hI.few
      refine (pa_add hPA hnw (by omega) r bu hal).mono ?_
      rintro e w' ⟨rfl, y', hP', hs'⟩
      refine ⟨?_, y', ?_, hs'⟩
      · unfold addN; rw [hR, if_pos rfl]
      · unfold addP; rw [if_pos hR]; exact hP'
  · have hR : addR p r bu = 6 := by unfold addR; rw [if_neg hal]
    refine (add_rate b r bu w hM.pb.c15 hal).mono ?_
    rintro e w' ⟨rfl, rfl⟩
    refine ⟨?_, y, ?_, Stp.refl _ _⟩
    · unfold addN; rw [hR, if_neg (by omega)]
    · unfold addP; rw [if_neg (by rw [hR]; omega)]; exact hPA
end Go.Proofs.YtogdekjklbbbiaaDoor

namespace Go.Proofs.YtogdekjklbbbiaaDoor
open Go.ChangeShapes Go.WideShapes Go.ChangeAt Go.RowKit
set_option linter.unusedSimpArgs false
set_option linter.unusedVariables false

/-- A flow is gone. -/
theorem PM.gone {w w' : World} {b : Nat} {y : Lay} {s : Pace.St} {nw n : Nat} {P P' : List Pace.Cmd} {c c' : Cn} {fv' pv' : Value} (h : PM w b y s nw P c) (hf : Fr w w' (fun k => k = b ∨ y.fv.ownBlock = some k ∨ y.pv.ownBlock = some k ∨ y.wo k)) (hfz : ∀ o, w'.frozen? ⟨b, o, none⟩ = false)
    (hPB : PB w' b s.q s.clock nw fv' pv' y.wb c') (hrf : w'.ownsRow 0 132 1 fv' (Pace.gone s.fl n).length ((Pace.gone s.fl n).map fun f => Value.pointer (some ⟨y.B f.num, 0, none⟩))) (hfv : fv'.ownBlock = y.fv.ownBlock) (hrp : w'.ownsRow 0 136 5 pv' P'.length (cmdsC y.B P')) (hpv : pv'.ownBlock = y.pv.ownBlock)
    (hwa : WA w' y.wb y.wo y.wn ((Pace.off s.A n).map fun a => (a.num, a.at'))) :
    ∃ y', PM w' b y' { s with fl := Pace.gone s.fl n, A := Pace.off s.A n } nw P' c' ∧ Step w w' y y' := by
  have hk : ∀ k t, y.tag k = t → t ≠ .none → t ≠ .self → t ≠ .rowF → t ≠ .rowP → t ≠ .wheel → w'.heap[k]? = w.heap[k]? := fun k t e h1 h2 h3 h4 h5 => hf.blk k (h.lt k (h.own_of e h1)) fun q => by
    rcases q with q | q | q | q
    · exact h2 (by rw [← e, q]; exact h.tb)
    · exact h3 (by rw [← e]; exact h.tf k q)
    · exact h4 (by rw [← e]; exact h.tp k q)
    · exact h5 (by rw [← e]; exact h.two k q)
  refine ⟨{ y with fv := fv', pv := pv' }, ⟨h.tb, h.t0, fun k hO => Nat.lt_of_lt_of_le (h.lt k hO) hf.size, hfz, hPB, hrf, fun g hg => h.tf g (by rw [← hfv]; exact hg), hrp, fun g hg => h.tp g (by rw [← hpv]; exact hg), hwa, h.two, h.wn, ?_, ?_, ?_, ?_, ?_⟩, ⟨?_, fun _ _ e => e⟩⟩
  · intro f hf'
    have q := (Pace.mem_gone.1 hf').1
    exact (h.fl f q).kept (hk _ _ (h.tl f q) (by simp) (by simp) (by simp) (by simp) (by simp)) fun g hg => hk g _ (h.tk f q g hg) (by simp) (by simp) (by simp) (by simp) (by simp)
  · intro f hf'; exact h.fc f (Pace.mem_gone.1 hf').1
  · intro f hf'; exact h.tl f (Pace.mem_gone.1 hf').1
  · intro f hf'; exact h.tk f (Pace.mem_gone.1 hf').1
  · intro a ha; exact h.ak a (Pace.mem_off.1 ha).1
  · exact hf.weak fun k _ q => by
      rcases q with q | q | q | q
      · rw [q]; exact h.ow
      · exact h.own_of (h.tf k q) (by simp)
      · exact h.own_of (h.tp k q) (by simp)
      · exact h.own_of (h.two k q) (by simp)
/-- What stands in the midst of a DeleteFunc of Remove. -/
structure ZR (w : World) (y : Lay) (x : Nat) (W : World) : Prop where
  sz : w.heap.size + 1 ≤ W.heap.size
  z : W.heap[w.heap.size]? = some (.cells #[.pointer (some ⟨x, 0, none⟩)] 132)
  fl : ∀ k m, y.tag k = .flow m → W.heap[k]? = w.heap[k]?
theorem ZR.fr {w : World} {y : Lay} {x : Nat} {W W' : World} (h : ZR w y x W) {O : Nat → Prop} (hf : Fr W W' O) (hO : ¬ O w.heap.size) (ho : ∀ k m, y.tag k = .flow m → k < w.heap.size ∧ ¬ O k) : ZR w y x W' := by
  have hsz := h.sz
  exact ⟨Nat.le_trans h.sz hf.size, (hf.blk _ (by omega) hO).trans h.z, fun k m e => (hf.blk k (by have := (ho k m e).1; omega) (ho k m e).2).trans (h.fl k m e)⟩
theorem gone_split {l : List Pace.Fl} {x : Pace.Fl} (hnd : (l.map (·.num)).Nodup) (hx : x ∈ l) : ∃ a r, l = a ++ x :: r ∧ Pace.gone l x.num = a ++ r := by
  obtain ⟨a, r, e⟩ := List.append_of_mem hx
  refine ⟨a, r, e, ?_⟩
  subst e
  simp only [List.map_append, List.map_cons] at hnd
  have hl : ∀ z ∈ a, z.num ≠ x.num := fun z hz e => (List.nodup_append.1 hnd).2.2 z.num (List.mem_map.2 ⟨z, hz, rfl⟩) x.num (List.mem_cons_self ..) e
  have hr : ∀ z ∈ r, z.num ≠ x.num := fun z hz e => (List.nodup_cons.1 (List.nodup_append.1 hnd).2.1).1 (by rw [← e]; exact List.mem_map.2 ⟨z, hz, rfl⟩)
  unfold Pace.gone
  rw [List.filter_append, List.filter_cons, if_neg (by simp)]
  congr 1
  · rw [List.filter_eq_self]; intro z hz; simpa using hl z hz
  · rw [List.filter_eq_self]; intro z hz; simpa using hr z hz
/-- DeleteFunc of Remove. -/
theorem pm_delf {w W0 : World} {b : Nat} {y : Lay} {s : Pace.St} {nw : Nat} {P : List Pace.Cmd} {c : Cn} (h : PM w b y s nw P c) (hi : Pace.PI s P) (h80 : P.length ≤ 80) {x : Pace.Fl} (hx : x ∈ s.fl) {O : Nat → Prop} (hfr : Fr w W0 O) (hO : ∀ k, O k → k = b ∨ y.tag k = .rowF) (hZ : ZR w y (y.B x.num) W0) :
    Calls Tryd.prog 54 #[y.pv, .func (.func 55) #[] #[.pointer (some ⟨w.heap.size, 0, none⟩)]] W0 fun e w' => ∃ v', e = .returned v' ∧
      (w'.ownsRow 0 136 5 v' (P.filter fun c => decide (c.flow ≠ x.num)).length (cmdsC y.B (P.filter fun c => decide (c.flow ≠ x.num))) ∧ v'.ownBlock = y.pv.ownBlock ∧ ZR w y (y.B x.num) w' ∧ Fr W0 w' (fun k => y.pv.ownBlock = some k)) := by
  have hfl : ∀ k m, y.tag k = .flow m → k < w.heap.size := fun k m e => h.lt k (h.own_of e (by simp))
  have htx := h.tl x hx
  have hff : (fun c : Pace.Cmd => !(c.flow == x.num)) = fun c => decide (c.flow ≠ x.num) := by
    funext c
    by_cases e : c.flow = x.num <;> simp [e]
  have hrow0 : W0.ownsRow 0 136 5 y.pv P.length (cmdsC y.B P) := row_kept0 h.rp fun g hg => hfr.blk g (h.rp.lt g hg).2 fun q => by
    have h1 := h.tp g hg
    rcases hO g q with q | q
    · rw [q, h.tb] at h1; cases h1
    · rw [q] at h1; cases h1
  rcases hrow0.2 with ⟨q1, q2⟩ | ⟨g, cap, cur, q1, _, q3, q4, q5, q6, q7⟩
  · have hP : P = [] := List.length_eq_zero_iff.1 q2
    subst hP
    rw [q1]
    refine (delf55_nil _ none 0 W0).mono ?_
    rintro e w' ⟨rfl, hf⟩
    exact ⟨_, rfl, World.ownsRow_nil _ _ _ _, rfl, hZ.fr hf (fun q => q) (fun k m e => ⟨hfl k m e, fun q => q⟩), hf.weak fun _ _ q => q.elim⟩
  · have hgt : y.tag g = .rowP := h.tp g (by rw [q1]; rfl)
    have hgl : g < w.heap.size := h.lt g (h.own_of hgt (by simp))
    by_cases hP0 : P.length = 0
    · have hP : P = [] := List.length_eq_zero_iff.1 hP0
      subst hP
      have hrow1 := hrow0
      rw [q1] at hrow1 ⊢
      refine (delf55_nil _ (some ⟨g, 0, none⟩) cap W0).mono ?_
      rintro e w' ⟨rfl, hf⟩
      exact ⟨_, rfl, row_kept0 hrow1 fun g' hg' => hf.blk g' (hrow1.lt g' hg').2 fun q => q, rfl, hZ.fr hf (fun q => q) (fun k m e => ⟨hfl k m e, fun q => q⟩), hf.weak fun _ _ q => q.elim⟩
    · rw [q1]
      refine (delf55_walk g cap P.length ⟨w.heap.size, 0, none⟩ cur (fun k => kdC (nthC P k)) (fun k => rC (nthC P k)) (fun k => buC (nthC P k)) (fun k => lC (nthC P k)) (fun k => y.B (nthC P k).flow) (fun k => (nthC P k).flow == x.num) (fun _ => False) W0 (fun k W => ZR w y (y.B x.num) W) (by omega) (by omega) q4 q5 hZ (fun z hz => hz.elim) (fun q => q) q3 q6 ?_ ?_ ?_ ?_).mono ?_
      · intro k hk
        have hg := nthC_get hk
        have hcm := cmdC_eq y.B (nthC P k)
        have hget : ∀ j v, (cmdC y.B (nthC P k))[j]? = some v → cur[k * 5 + j]? = some v := fun j v hj => by
          have := cmdsC_get y.B P k _ j v hg hj
          rw [← q7, List.getElem?_take] at this
          split at this
          · simpa using this
          · cases this
        exact ⟨hget 0 _ (by rw [hcm]; rfl), hget 1 _ (by rw [hcm]; rfl), hget 2 _ (by rw [hcm]; rfl), hget 3 _ (by rw [hcm]; rfl), hget 4 _ (by rw [hcm]; rfl)⟩
      · intro k W o hR
        exact hR.fr (O := fun _ => False) ((Fr.refl _ _).alloc o) (fun q => q) (fun k m e => ⟨hfl k m e, fun q => q⟩)
      · intro k W W' hR hsz hj hsz' ho ht hu
        refine hR.fr (O := fun z => z = g) ⟨ho, ht, hu, by omega, fun z _ hz => hj z hz⟩ (by omega) (fun z m e => ⟨hfl z m e, fun q => ?_⟩)
        rw [q, hgt] at e; cases e
      · intro k W hR hk
        obtain ⟨xf, hxf, hxn⟩ := hi.live (nthC P k) (List.mem_of_getElem? (nthC_get hk))
        have htf := h.tl xf hxf
        have hcellx : ∀ f ∈ s.fl, (∃ v, W.cell? ⟨y.B f.num, 0, none⟩ = some v) ∧ ∀ o, W.frozen? ⟨y.B f.num, o, none⟩ = false := by
          intro f hf
          have hFf := h.fl f hf
          have hb := hR.fl _ _ (h.tl f hf)
          exact ⟨⟨_, (World.cell?_of_block (w := w) (a := ⟨y.B f.num, 0, none⟩) hb).trans hFf.c0⟩, fun o => (frozen_of hb o).trans (hFf.fz o)⟩
        have hzc : W.cell? ⟨w.heap.size, 0, none⟩ = some (.pointer (some ⟨y.B x.num, 0, none⟩)) := by rw [heap_cell hR.z]; rfl
        have hd : decide (y.B (nthC P k).flow = y.B x.num) = ((nthC P k).flow == x.num) := by
          by_cases e : (nthC P k).flow = x.num
          · simp [e]
          · have : y.B (nthC P k).flow ≠ y.B x.num := fun e' => by
              rw [hxn, e', htx] at htf
              injection htf with htf
              exact e htf.symm
            simp [e, this]
        have hc1 := hcellx xf hxf
        rw [hxn] at hc1
        refine (clo55 (y.B (nthC P k).flow) (y.B x.num) w.heap.size (kdC (nthC P k)) (rC (nthC P k)) (buC (nthC P k)) (lC (nthC P k)) W hzc hc1 (hcellx x hx)).mono ?_
        rintro e w' ⟨rfl, rfl⟩
        exact ⟨by rw [hd], hR.fr (O := fun _ => False) ((Fr.refl _ _).alloc _) (fun q => q) (fun k m e => ⟨hfl k m e, fun q => q⟩), (Fr.refl _ _).alloc _⟩
      · rintro e w' ⟨v', rfl, d1, d2, d3, d4, d5, d6, d7, d8⟩
        obtain ⟨k1, k2⟩ := kept_cmds y.B P (fun c => c.flow == x.num)
        rw [hff] at k1 k2
        rw [k1, k2] at d1
        exact ⟨v', rfl, d1, by rw [d2]; rfl, d3, ⟨d6, d7, d8, d5, fun k hk hn => d4 k hk (fun q => q) fun e => hn (by rw [e]; rfl)⟩⟩
end Go.Proofs.YtogdekjklbbbiaaDoor

namespace Go.Proofs.YtogdekjklbbbiaaDoor
open Go.ChangeShapes Go.WideShapes Go.ChangeAt Go.RowKit
set_option linter.unusedSimpArgs false
set_option linter.unusedVariables false

theorem PB.rows {w : World} {b q ck nw : Nat} {fv pv : Value} {wb : Nat} {c : Cn} (h : PB w b q ck nw fv pv wb c) (fv' : Value) : PB (w.setCell ⟨b, 3, none⟩ fv') b q ck nw fv' pv wb c := by
  have hc : Ch w (w.setCell ⟨b, 3, none⟩ fv') (fun a o => a = b ∧ o = 3) := (Ch.refl w _).setCell ⟨rfl, rfl⟩ _
  have hcc : ∀ o, o ≠ 3 → (w.setCell ⟨b, 3, none⟩ fv').cell? ⟨b, o, none⟩ = w.cell? ⟨b, o, none⟩ := fun o ho => hc.cell b o fun q => ho q.2
  exact ⟨by rw [hcc _ (by omega)]; exact h.c0, by rw [hcc _ (by omega)]; exact h.c1, by rw [hcc _ (by omega)]; exact h.c2, World.cell?_setCell_same' _ _ _ (by rw [h.c3]; rfl), by rw [hcc _ (by omega)]; exact h.c4, by rw [hcc _ (by omega)]; exact h.c5, by rw [hcc _ (by omega)]; exact h.c6, by rw [hcc _ (by omega)]; exact h.c7, by rw [hcc _ (by omega)]; exact h.c8, by rw [hcc _ (by omega)]; exact h.c9, by rw [hcc _ (by omega)]; exact h.c10, by rw [hcc _ (by omega)]; exact h.c11, by rw [hcc _ (by omega)]; exact h.c12, by rw [hcc _ (by omega)]; exact h.c13, by rw [hcc _ (by omega)]; exact h.c14, by rw [hcc _ (by omega)]; exact h.c15⟩
theorem PB.dropped {w : World} {b q ck nw : Nat} {fv pv : Value} {wb : Nat} {c : Cn} (h : PB w b q ck nw fv pv wb c) (n : Nat) : PB (w.setCell ⟨b, 9, none⟩ (.int .i64 (n : Int))) b q ck nw fv pv wb { c with dropped := n } := by
  have hc : Ch w (w.setCell ⟨b, 9, none⟩ (.int .i64 (n : Int))) (fun a o => a = b ∧ o = 9) := (Ch.refl w _).setCell ⟨rfl, rfl⟩ _
  have hcc : ∀ o, o ≠ 9 → (w.setCell ⟨b, 9, none⟩ (.int .i64 (n : Int))).cell? ⟨b, o, none⟩ = w.cell? ⟨b, o, none⟩ := fun o ho => hc.cell b o fun q => ho q.2
  exact ⟨by rw [hcc _ (by omega)]; exact h.c0, by rw [hcc _ (by omega)]; exact h.c1, by rw [hcc _ (by omega)]; exact h.c2, by rw [hcc _ (by omega)]; exact h.c3, by rw [hcc _ (by omega)]; exact h.c4, by rw [hcc _ (by omega)]; exact h.c5, by rw [hcc _ (by omega)]; exact h.c6, by rw [hcc _ (by omega)]; exact h.c7, by rw [hcc _ (by omega)]; exact h.c8, World.cell?_setCell_same' _ _ _ (by rw [h.c9]; rfl), by rw [hcc _ (by omega)]; exact h.c10, by rw [hcc _ (by omega)]; exact h.c11, by rw [hcc _ (by omega)]; exact h.c12, by rw [hcc _ (by omega)]; exact h.c13, by rw [hcc _ (by omega)]; exact h.c14, by rw [hcc _ (by omega)]; exact h.c15⟩
theorem map_cut {α β : Type} (u : α → β) : ∀ (l r : List α) (a : α), ((l ++ a :: r).map u).take l.length ++ ((l ++ a :: r).map u).drop (l.length + 1) = (l ++ r).map u
  | [], r, a => by simp
  | x :: l, r, a => by
    have := map_cut u l r a
    simp only [List.cons_append, List.map_cons, List.length_cons, List.take_succ_cons, List.drop_succ_cons]
    rw [this]
/-- What Remove answers. -/
def remR (p : Pace.PS) (f : Int) : Int :=
  match lookI p.st.fl f with
  | none => 5
  | some _ => 0
def remP (p : Pace.PS) (f : Int) : Pace.PS :=
  match lookI p.st.fl f with
  | none => p
  | some x => p.remove x.num
def remL (p : Pace.PS) (f : Int) : List (Int × Nat) :=
  match lookI p.st.fl f with
  | none => []
  | some x => x.pk
/-- A list of packets that was made behind n0. -/
structure PL (w : World) (n0 : Nat) (N : Nat → Prop) (l : List (Int × Nat)) (v : Value) : Prop where
  row : w.ownsRow n0 102 2 v l.length (pkC l)
  nn : ∀ g, v.ownBlock = some g → N g
theorem pa_remove {w : World} {b : Nat} {y : Lay} {p : Pace.PS} {c : Cn} (h : PA w b y p c) (hnw : p.newest < 8000000000000000000) (hc : c.dropped < 8000000000000000000) (f : Int) :
    Calls Tryd.prog 24 #[.pointer (some ⟨b, 0, none⟩), .int .i64 f] w fun e w' => ∃ v, e = .returned (.tuple #[v, .int .i64 (remR p f)]) ∧ ∃ y', PA w' b y' (remP p f) { c with dropped := c.dropped + (remL p f).length } ∧ Stp w w' y y' ∧ PL w' w.heap.size (fun k => y'.tag k = .none) (remL p f) v := by
  have hPA := h
  obtain ⟨P, hM, hI, hS, hSh⟩ := h
  have hV := pm_live hM hI.few f
  have hnd := hI.pi.wf.nums
  have h80 : P.length ≤ 80 := short80 hS.inv.pi hSh hI.few
  cases hl : lookI p.st.fl f with
  | none =>
    have hR : remR p f = 5 ∧ remP p f = p ∧ remL p f = [] := by unfold remR remP remL; rw [hl]; exact ⟨rfl, rfl, rfl⟩
    unfold lookI at hl
    rw [hl] at hV
    refine (remove_none b f w hV).mono ?_
    rintro e w' ⟨rfl, rfl⟩
    rw [hR.1, hR.2.1, hR.2.2]
    refine ⟨_, rfl, y, hPA.kept (O := fun _ => False) ((Fr.refl _ _).alloc _) (fun _ _ q => q), ⟨((Fr.refl _ _).alloc _), fun _ _ e => e⟩, ⟨World.ownsRow_nil _ _ _ _, fun g hg => by cases hg⟩⟩
  | some x =>
    obtain ⟨hx, hxf, hlk, hft⟩ := lookI_some hl hnd
    have hR : remR p f = 0 ∧ remP p f = p.remove x.num ∧ remL p f = x.pk := by unfold remR remP remL; rw [hl]; exact ⟨rfl, rfl, rfl⟩
    unfold lookI at hl
    rw [hl] at hV
    have hV : Calls Tryd.prog 49 #[.pointer (some ⟨b, 0, none⟩), .int .i64 f] w fun e w' => w' = w ∧ e = .returned (liveV (some (y.B x.num))) := hV
    obtain ⟨h1, h2, h3, h4⟩ := hM.at_flow hlk
    have hFx := hI.pi.wf.F x hx
    have hfew := hI.few
    have hbl : b < w.heap.size := hM.lt b hM.ow
    have hxl : y.B x.num < w.heap.size := hM.lt _ (hM.own_of h4 (by simp))
    have hfb : y.fv.ownBlock ≠ some b := fun e => by have := hM.tf b e; rw [hM.tb] at this; cases this
    have hfl : ∀ k m, y.tag k = .flow m → k < w.heap.size := fun k m e => hM.lt k (hM.own_of e (by simp))
    obtain ⟨al, ar, hsp, hgone⟩ := gone_split hnd hx
    obtain ⟨av, cv, hv⟩ := row_len h1.row
    have hpos : 0 < p.st.fl.length := List.length_pos_of_mem hx
    have hkl : al.length < p.st.fl.length := by rw [hsp]; simp
    obtain ⟨gf, capf, hfv, _, hgfl, hgfo, hfc, hfm⟩ := row_shape hM.rf hpos
    have hgft := hM.tf gf hgfo
    generalize hW0 : (w.alloc (.cells #[.pointer (some ⟨y.B x.num, 0, none⟩)] 132)).drewN 1 = W0
    have hfr0 : Fr w W0 (fun _ => False) := by rw [← hW0]; exact ((Fr.refl _ _).alloc _).drewN 1
    have hs0 : W0.heap.size = w.heap.size + 1 := by rw [← hW0]; show (w.alloc _).heap.size = _; simp
    have hz0 : W0.heap[w.heap.size]? = some (.cells #[.pointer (some ⟨y.B x.num, 0, none⟩)] 132) := by rw [← hW0]; exact heap_alloc_new _ _
    have hM0 := hM.kept hfr0 (fun _ _ q => q)
    have hb0 : W0.heap[b]? = w.heap[b]? := hfr0.blk b hbl fun q => q
    have hZ0 : ZR w y (y.B x.num) W0 := ⟨by omega, hz0, fun k m e => hfr0.blk k (hfl k m e) fun q => q⟩
    -- what each step leaves
    have K1 : ∀ v1 w1, DP W0 w1 0 132 1 (p.st.fl.length - 1) y.fv v1 ((Pace.gone p.st.fl x.num).map fun f => Value.pointer (some ⟨y.B f.num, 0, none⟩)) → Fr w (w1.setCell ⟨b, 3, none⟩ v1) (fun k => k = b ∨ y.tag k = .rowF) ∧ w1.heap[b]? = w.heap[b]? ∧ ZR w y (y.B x.num) (w1.setCell ⟨b, 3, none⟩ v1) ∧ PB (w1.setCell ⟨b, 3, none⟩ v1) b p.st.q p.st.clock p.newest v1 y.pv y.wb c := by
      rintro v1 w1 ⟨r1, r2, r3, r4⟩
      have hfr1 : Fr w w1 (fun k => y.tag k = .rowF) := (hfr0.weak fun _ _ q => q.elim).trans (World.grownBy.fr r3) fun k _ q => hM.tf k q
      have hb1 : w1.heap[b]? = w.heap[b]? := hfr1.blk b hbl fun q => by rw [hM.tb] at q; cases q
      have hfr1' : Fr w (w1.setCell ⟨b, 3, none⟩ v1) (fun k => k = b ∨ y.tag k = .rowF) := (hfr1.weak fun k _ q => .inr q).trans (ch1 w1 b 3 v1) fun k _ q => .inl q
      refine ⟨hfr1', hb1, ?_, (hM.pb.kept hb1).rows v1⟩
      refine (hZ0.fr (World.grownBy.fr r3) (fun q => ?_) (fun k m e => ⟨hfl k m e, fun q => ?_⟩)).fr (ch1 w1 b 3 v1) (by omega) (fun k m e => ⟨hfl k m e, fun q => ?_⟩)
      · have := (hM.rf.lt _ q).2; omega
      · have := hM.tf k q; rw [e] at this; cases this
      · rw [q, hM.tb] at e; cases e
    have K2 : ∀ v1 w1 p2 w2, DP W0 w1 0 132 1 (p.st.fl.length - 1) y.fv v1 ((Pace.gone p.st.fl x.num).map fun f => Value.pointer (some ⟨y.B f.num, 0, none⟩)) → Fr (w1.setCell ⟨b, 3, none⟩ v1) w2 (fun k => y.pv.ownBlock = some k) → PB w2 b p.st.q p.st.clock p.newest v1 y.pv y.wb c ∧ (∀ o, w2.frozen? ⟨b, o, none⟩ = false) ∧ Fr w (w2.setCell ⟨b, 4, none⟩ p2) (fun k => k = b ∨ y.fv.ownBlock = some k ∨ y.pv.ownBlock = some k) ∧ w2.heap[y.B x.num]? = w.heap[y.B x.num]? := by
      intro v1 w1 p2 w2 hDP hf2
      obtain ⟨k1, k2, k3, k4⟩ := K1 v1 w1 hDP
      obtain ⟨r1, r2, r3, r4⟩ := hDP
      have hs1 := k1.size
      have hb2 : w2.heap[b]? = (w1.setCell ⟨b, 3, none⟩ v1).heap[b]? := hf2.blk b (by omega) (pv_ne_b hM)
      have hfr1 : Fr w w1 (fun k => y.fv.ownBlock = some k) := (hfr0.weak fun _ _ q => q.elim).trans (World.grownBy.fr r3) fun k _ q => q
      refine ⟨k4.kept hb2, fun o => ?_, (((hfr1.weak (O' := fun k => k = b ∨ y.fv.ownBlock = some k ∨ y.pv.ownBlock = some k) fun k _ q => .inr (.inl q)).trans (ch1 w1 b 3 v1) fun k _ q => .inl q).trans hf2 fun k _ q => .inr (.inr q)).trans (ch1 w2 b 4 p2) fun k _ q => .inl q, ?_⟩
      · rw [frozen_of hb2, World.frozen?_setCell, frozen_of k2]; exact hM.fz o
      · refine (hf2.blk _ (by omega) fun q => ?_).trans (k1.blk _ hxl fun q => ?_)
        · have := hM.tp _ q; rw [h4] at this; cases this
        · rcases q with q | q
          · rw [q, hM.tb] at h4; cases h4
          · rw [h4] at q; cases q
    refine (remove_walk b (y.B x.num) y.wb al.length x.pk.length c.dropped f (x.num : Int) y.fv y.pv (y.V x.num) av cv w
      (fun v1 w1 => DP W0 w1 0 132 1 (p.st.fl.length - 1) y.fv v1 ((Pace.gone p.st.fl x.num).map fun f => Value.pointer (some ⟨y.B f.num, 0, none⟩)))
      (fun p2 w2 => ∃ v1 w1, DP W0 w1 0 132 1 (p.st.fl.length - 1) y.fv v1 ((Pace.gone p.st.fl x.num).map fun f => Value.pointer (some ⟨y.B f.num, 0, none⟩)) ∧ (w2.ownsRow 0 136 5 p2 (P.filter fun c => decide (c.flow ≠ x.num)).length (cmdsC y.B (P.filter fun c => decide (c.flow ≠ x.num))) ∧ p2.ownBlock = y.pv.ownBlock ∧ ZR w y (y.B x.num) w2 ∧ Fr (w1.setCell ⟨b, 3, none⟩ v1) w2 (fun k => y.pv.ownBlock = some k)))
      (fun w4 => ∃ v1 w1 p2 w2, DP W0 w1 0 132 1 (p.st.fl.length - 1) y.fv v1 ((Pace.gone p.st.fl x.num).map fun f => Value.pointer (some ⟨y.B f.num, 0, none⟩)) ∧ (w2.ownsRow 0 136 5 p2 (P.filter fun c => decide (c.flow ≠ x.num)).length (cmdsC y.B (P.filter fun c => decide (c.flow ≠ x.num))) ∧ p2.ownBlock = y.pv.ownBlock ∧ ZR w y (y.B x.num) w2 ∧ Fr (w1.setCell ⟨b, 3, none⟩ v1) w2 (fun k => y.pv.ownBlock = some k)) ∧ Fr (w2.setCell ⟨b, 4, none⟩ p2) w4 y.wo ∧ WA w4 y.wb y.wo y.wn ((Pace.off p.st.A x.num).map fun a => (a.num, a.at')))
      (fun v w' => ∃ y', PA w' b y' (p.remove x.num) { c with dropped := c.dropped + x.pk.length } ∧ Stp w w' y y' ∧ PL w' w.heap.size (fun k => y'.tag k = .none) x.pk v)
      hv hFx.few (by omega) (by omega) (fun e => by rw [← e, hM.tb] at h4; cases h4) hbl hM.pb.c3 hV ?_ ?_ ?_ ?_ ?_ ?_ ?_ ?_).mono ?_
    · rw [hW0]
      have hi0 := index_walk gf capf (p.st.fl.map fun f => y.B f.num) (y.B x.num) al.length W0 (by simpa using hfew) (by rw [hsp]; simp) (fun k hk => by
        rw [hsp]
        intro e
        rw [List.getElem?_map, List.getElem?_append_left hk] at e
        cases hz : al[k]? with
        | none => rw [hz] at e; cases e
        | some z =>
          rw [hz] at e
          have e : y.B z.num = y.B x.num := by simpa using e
          have hzm : z ∈ p.st.fl := by rw [hsp]; exact List.mem_append.2 (.inl (List.mem_of_getElem? hz))
          have ht := hM.tl z hzm
          rw [e, h4] at ht
          injection ht with ht
          have hg' : z ∈ Pace.gone p.st.fl x.num := by rw [hgone]; exact List.mem_append.2 (.inl (List.mem_of_getElem? hz))
          exact (Pace.mem_gone.1 hg').2 ht.symm) (fun k z hk => by
        refine row_get0 hM0.rf hgfo ?_
        rw [List.getElem?_map] at hk ⊢
        cases hz : p.st.fl[k]? with
        | none => rw [hz] at hk; cases hk
        | some f => rw [hz] at hk; simp at hk ⊢; exact hk) (fun z hz => by
        obtain ⟨f', hf', rfl⟩ := List.mem_map.1 hz
        exact ⟨⟨_, (hM0.fl f' hf').c0⟩, (hM0.fl f' hf').fz⟩)
      rw [List.length_map, ← hfv] at hi0
      exact hi0
    · rw [hW0]
      rcases hM0.rf.2 with ⟨q, q2⟩ | ⟨g', cap', cur, q1, q2, q3, q4, q5, q6, q7⟩
      · omega
      · have hd := del53_walk 0 g' p.st.fl.length cap' al.length (al.length + 1) cur _ W0 q3 (Nat.zero_le _) q4 q5 (by simpa using q6) (by simpa using q7) (fun u hu => by obtain ⟨z, _, rfl⟩ := List.mem_map.1 hu; rfl) (by omega) (by omega)
        rw [show ((al.length + 1 : Nat) : Int) = (al.length : Int) + 1 by omega, ← q1] at hd
        refine hd.mono ?_
        rintro e w' ⟨v', rfl, hDP⟩
        refine ⟨v', rfl, ?_⟩
        have e1 : (p.st.fl.map fun f => Value.pointer (some ⟨y.B f.num, 0, none⟩)).take al.length ++ (p.st.fl.map fun f => Value.pointer (some ⟨y.B f.num, 0, none⟩)).drop (al.length + 1) = (Pace.gone p.st.fl x.num).map fun f => Value.pointer (some ⟨y.B f.num, 0, none⟩) := by
          rw [hgone, hsp]
          exact map_cut _ al ar x
        rw [e1, show p.st.fl.length - (al.length + 1 - al.length) = p.st.fl.length - 1 by omega] at hDP
        exact hDP
    · intro v1 w1 hDP
      obtain ⟨k1, k2, k3, k4⟩ := K1 v1 w1 hDP
      obtain ⟨a, cc, hv1⟩ := row_len hDP.1
      have hPB1 := hM.pb.kept k2
      exact ⟨⟨a, _, cc, hv1⟩, ⟨_, hPB1.c3⟩, (frozen_of k2 3).trans (hM.fz 3), hPB1.c4⟩
    · intro v1 w1 hDP
      obtain ⟨k1, k2, k3, k4⟩ := K1 v1 w1 hDP
      refine (pm_delf hM hS.inv.pi h80 hx k1 (fun k q => q) k3).mono ?_
      rintro e w' ⟨v', rfl, hh⟩
      exact ⟨v', rfl, v1, w1, hDP, hh⟩
    · rintro p2 w2 ⟨v1, w1, hDP, a1, a2, a3, a4⟩
      obtain ⟨j1, j2, j3, j4⟩ := K2 v1 w1 p2 w2 hDP a4
      obtain ⟨a, cc, hp2⟩ := row_len a1
      exact ⟨⟨a, _, cc, hp2⟩, ⟨_, j1.c4⟩, j2 4, j1.c5, by rw [heap_cell a3.z]; rfl, (World.cell?_of_block (w := w) (a := ⟨y.B x.num, 0, none⟩) j4).trans h1.c0⟩
    · rintro p2 w2 ⟨v1, w1, hDP, a1, a2, a3, a4⟩
      obtain ⟨j1, j2, j3, j4⟩ := K2 v1 w1 p2 w2 hDP a4
      have hwa := (hM.wa.kept j3 fun k hO q => by
        have := hM.two k hO
        rcases q with q | q | q
        · rw [q, hM.tb] at this; cases this
        · rw [hM.tf k q] at this; cases this
        · rw [hM.tp k q] at this; cases this).kept (O' := fun _ => False) ((Fr.refl _ _).drewN 1) fun _ _ q => q
      have hnx := (hI.le x hx).2
      refine (wa_cancel hwa (x.num : Int) (by omega) (by omega)).mono ?_
      rintro e w4 ⟨rfl, hf4, hw4⟩
      rw [can_off] at hw4
      exact ⟨_, rfl, v1, w1, p2, w2, hDP, ⟨a1, a2, a3, a4⟩, ⟨hf4.os, hf4.tape, hf4.output, hf4.size, hf4.blk⟩, hw4⟩
    · rintro w4 ⟨v1, w1, p2, w2, hDP, ⟨a1, a2, a3, a4⟩, hf4, hw4⟩
      obtain ⟨j1, j2, j3, j4⟩ := K2 v1 w1 p2 w2 hDP a4
      have hs3 := j3.size
      have hzs := a3.sz
      have hs4 : (w2.setCell ⟨b, 4, none⟩ p2).heap.size = w2.heap.size := by simp
      have hb4 : w4.heap[b]? = (w2.setCell ⟨b, 4, none⟩ p2).heap[b]? := hf4.blk b (by omega) fun q => by have := hM.two b q; rw [hM.tb] at this; cases this
      have hPB4 := (j1.pend p2).kept hb4
      have hx4 : w4.heap[y.B x.num]? = w.heap[y.B x.num]? := (hf4.blk _ (by omega) fun q => by have := hM.two _ q; rw [h4] at this; cases this).trans ((Below.heap_setCell _ _ _ _ fun e => by
        have e' : y.B x.num = b := e
        rw [e', hM.tb] at h4; cases h4).trans j4)
      have hz4 : w4.heap[w.heap.size]? = some (.cells #[.pointer (some ⟨y.B x.num, 0, none⟩)] 132) := (hf4.blk _ (by omega) fun q => by have := hM.lt _ (hM.own_of (hM.two _ q) (by simp)); omega).trans ((Below.heap_setCell _ _ _ _ (by show w.heap.size ≠ b; omega)).trans a3.z)
      have hcx : ∀ o, w4.cell? ⟨y.B x.num, o, none⟩ = w.cell? ⟨y.B x.num, o, none⟩ := fun o => World.cell?_of_block (w := w) (a := ⟨y.B x.num, o, none⟩) hx4
      exact ⟨hPB4.c5, by rw [heap_cell hz4]; rfl, by rw [hcx]; exact h1.c0, hPB4.c9, by rw [frozen_of hb4, World.frozen?_setCell]; exact j2 9, by rw [hcx]; exact h1.c5⟩
    · rintro w4 ⟨v1, w1, p2, w2, hDP, ⟨a1, a2, a3, a4⟩, hf4, hw4⟩
      obtain ⟨j1, j2, j3, j4⟩ := K2 v1 w1 p2 w2 hDP a4
      have hs3 := j3.size
      have hs4 : (w2.setCell ⟨b, 4, none⟩ p2).heap.size = w2.heap.size := by simp
      have hb4 : w4.heap[b]? = (w2.setCell ⟨b, 4, none⟩ p2).heap[b]? := hf4.blk b (by omega) fun q => by have := hM.two b q; rw [hM.tb] at this; cases this
      have hPB4 := (j1.pend p2).kept hb4
      rw [show (c.dropped : Int) + (x.pk.length : Int) = ((c.dropped + x.pk.length : Nat) : Int) by omega]
      have hPB5 := hPB4.dropped (c.dropped + x.pk.length)
      have hfr5 : Fr w (w4.setCell ⟨b, 9, none⟩ (.int .i64 ((c.dropped + x.pk.length : Nat) : Int))) (fun k => k = b ∨ y.fv.ownBlock = some k ∨ y.pv.ownBlock = some k ∨ y.wo k) := ((j3.weak (O' := fun k => k = b ∨ y.fv.ownBlock = some k ∨ y.pv.ownBlock = some k ∨ y.wo k) fun k _ q => by
          rcases q with q | q | q
          · exact .inl q
          · exact .inr (.inl q)
          · exact .inr (.inr (.inl q))).trans hf4 fun k _ q => .inr (.inr (.inr q))).trans (ch1 w4 b 9 _) fun k _ q => .inl q
      obtain ⟨r1, r2, r3, r4⟩ := hDP
      -- the two rows at the end
      have hrf5 : (w4.setCell ⟨b, 9, none⟩ (.int .i64 ((c.dropped + x.pk.length : Nat) : Int))).ownsRow 0 132 1 v1 (Pace.gone p.st.fl x.num).length ((Pace.gone p.st.fl x.num).map fun f => Value.pointer (some ⟨y.B f.num, 0, none⟩)) := by
        have el : (Pace.gone p.st.fl x.num).length = p.st.fl.length - 1 := by rw [hgone, hsp]; simp
        rw [el]
        refine row_kept0 r1 fun g hg => ?_
        rw [r2] at hg
        have hgt := hM.tf g hg
        have hgl := (hM.rf.lt g hg).2
        have hgb : g ≠ b := fun e => by rw [e, hM.tb] at hgt; cases hgt
        have hw1 : w.heap.size ≤ w1.heap.size := by have : w1.heap.size = W0.heap.size := r4; omega
        have hs2 := a4.size
        have hs1' : (w1.setCell ⟨b, 3, none⟩ v1).heap.size = w1.heap.size := by simp
        rw [Below.heap_setCell _ _ _ _ hgb, hf4.blk g (by omega) (fun q => by have := hM.two g q; rw [hgt] at this; cases this), Below.heap_setCell _ _ _ _ hgb, a4.blk g (by omega) (fun q => by have := hM.tp g q; rw [hgt] at this; cases this), Below.heap_setCell _ _ _ _ hgb]
      have hrp5 : (w4.setCell ⟨b, 9, none⟩ (.int .i64 ((c.dropped + x.pk.length : Nat) : Int))).ownsRow 0 136 5 p2 (P.filter fun c => decide (c.flow ≠ x.num)).length (cmdsC y.B (P.filter fun c => decide (c.flow ≠ x.num))) := by
        refine row_kept0 a1 fun g hg => ?_
        rw [a2] at hg
        have hgt := hM.tp g hg
        have hgl := (hM.rp.lt g hg).2
        have hgb : g ≠ b := fun e => by rw [e, hM.tb] at hgt; cases hgt
        rw [Below.heap_setCell _ _ _ _ hgb, hf4.blk g (by omega) (fun q => by have := hM.two g q; rw [hgt] at this; cases this), Below.heap_setCell _ _ _ _ hgb]
      have hwa5 := hw4.kept (ch1 w4 b 9 (.int .i64 ((c.dropped + x.pk.length : Nat) : Int))) fun k hO q => by have := hM.two k hO; rw [q, hM.tb] at this; cases this
      obtain ⟨y', hP', hs'⟩ := hM.gone (n := x.num) (P' := P.filter fun c => decide (c.flow ≠ x.num)) hfr5 (fun o => by rw [World.frozen?_setCell, frozen_of hb4, World.frozen?_setCell]; exact j2 o) hPB5 hrf5 r2 hrp5 a2 hwa5
      have hPAe : PA (w4.setCell ⟨b, 9, none⟩ (.int .i64 ((c.dropped + x.pk.length : Nat) : Int))) b y' (p.remove x.num) { c with dropped := c.dropped + x.pk.length } := ⟨_, hP', hI.remove x.num, hS.remove x.num (hI.le x hx).2, hSh.filter _⟩
      generalize (w4.setCell ⟨b, 9, none⟩ (.int .i64 ((c.dropped + x.pk.length : Nat) : Int))) = w5 at hPAe hfr5 hP' hs' ⊢
      have hs5 := hfr5.size
      have hend : ∀ v w', w5.grownBy w' none → (w'.ownsRow w5.heap.size 102 2 v x.pk.length (pkC x.pk) ∨ (v = .slice none 0 0 ∧ x.pk = [])) → ∃ y', PA w' b y' (p.remove x.num) { c with dropped := c.dropped + x.pk.length } ∧ Stp w w' y y' ∧ PL w' w.heap.size (fun k => y'.tag k = .none) x.pk v := by
        intro v w' hg hrow
        have hff : Fr w5 w' (fun _ => False) := (World.grownBy.fr hg).weak fun k _ q => by cases q
        refine ⟨y', hPAe.kept hff (fun _ _ q => q), hs'.stp.trans ⟨hff.weak fun _ _ q => q.elim, fun _ _ e => e⟩, ?_⟩
        rcases hrow with q | ⟨q1, q2⟩
        · refine ⟨⟨q.1, ?_⟩, fun g hg' => Classical.byContradiction fun hne => ?_⟩
          · rcases q.2 with q' | ⟨g, cap, cur, z1, z2, z3⟩
            · exact .inl q'
            · exact .inr ⟨g, cap, cur, z1, by omega, z3⟩
          · have := hP'.lt g hne
            have := (q.lt g hg').1
            omega
        · rw [q2, q1]
          exact ⟨World.ownsRow_nil _ _ _ _, fun g hg' => by cases hg'⟩
      have hgrow0 : w5.grownBy (w5.drewN 1) none := ⟨rfl, rfl, rfl, Nat.le_refl _, fun _ _ _ => rfl⟩
      rcases h1.row.2 with ⟨q1, q2⟩ | ⟨g, cap, cur, q1, q2, q3, q4, q5, q6, q7⟩
      · rw [q1]
        refine (clone_nil (w5.drewN 1)).mono ?_
        rintro e w' ⟨rfl, rfl⟩
        exact ⟨_, rfl, hend _ _ hgrow0 (.inr ⟨rfl, List.length_eq_zero_iff.1 q2⟩)⟩
      · rw [q1]
        have hgo : (y.V x.num).ownBlock = some g := by rw [q1]; rfl
        have hgt : y.tag g = .pk x.num := hM.tk x hx g hgo
        have hgl := (h1.row.lt g hgo).2
        refine (clone_walk g x.pk.length cap (pkC x.pk) (w5.drewN 1) hFx.few (pkC_length _) (pkC_one _) (fun j u hu => ?_)).mono ?_
        · have := row_get0 h1.row hgo hu
          refine (World.cell?_of_block (w := w) (a := ⟨g, j, none⟩) (w' := w5.drewN 1) (hfr5.blk g hgl fun q => ?_)).trans this
          rcases q with q | q | q | q
          · rw [q, hM.tb] at hgt; cases hgt
          · rw [hM.tf g q] at hgt; cases hgt
          · rw [hM.tp g q] at hgt; cases hgt
          · rw [hM.two g q] at hgt; cases hgt
        · rintro e w' ⟨v, rfl, k1, k2⟩
          exact ⟨v, rfl, hend _ _ ⟨k2.os, k2.tape, k2.output, k2.size, k2.block⟩ (.inl k1)⟩
    · rintro e w' ⟨v, rfl, hh⟩
      rw [hR.1, hR.2.1, hR.2.2]
      exact ⟨v, rfl, hh⟩
end Go.Proofs.YtogdekjklbbbiaaDoor

namespace Go.Proofs.YtogdekjklbbbiaaDoor
open Go.ChangeShapes Go.WideShapes Go.ChangeAt Go.RowKit
set_option linter.unusedSimpArgs false
set_option linter.unusedVariables false

theorem eqp_nil (w : World) (x : Nat) : (binOp .eql 51 (.pointer (some ⟨x, 0, none⟩)) (.pointer none)).run Tryd.prog w = .ok (.bool false) w := by
  kernel_rfl
set_option maxHeartbeats 1000000 in
theorem alive_walk (w : World) (R1 R2 R3 : Nat → World → Prop) (Post : World → Prop)
    (hN : Calls Tryd.prog 20 #[.int .i64 1500] w fun e w' => ∃ b, e = .returned (.tuple #[.pointer (some ⟨b, 0, none⟩), .int .i64 0]) ∧ R1 b w')
    (hA : ∀ b w1, R1 b w1 → Calls Tryd.prog 21 #[.pointer (some ⟨b, 0, none⟩), .int .i64 1000, .int .i64 1500] w1 fun e w' => e = .returned (.tuple #[.int .i64 1, .int .i64 0]) ∧ R2 b w')
    (hE : ∀ b w1, R2 b w1 → Calls Tryd.prog 23 #[.pointer (some ⟨b, 0, none⟩), .int .i64 1, .int .i64 7, .int .i64 100] w1 fun e w' => e = .returned (.int .i64 0) ∧ R3 b w')
    (hP : ∀ b w1, R3 b w1 → Calls Tryd.prog 25 #[.pointer (some ⟨b, 0, none⟩), .int .i64 5, .int .i64 9] w1 fun e w' => ∃ g c g2 o2, e = .returned (.tuple #[.slice (some ⟨g, 0, none⟩) 1 c, .int .i64 0]) ∧ w'.cell? ⟨g, 0, none⟩ = some (.int .i64 1) ∧ w'.cell? ⟨g, 1, none⟩ = some (.int .i64 5) ∧ w'.cell? ⟨g, 2, none⟩ = some (.slice (some ⟨g2, o2, none⟩) 1 1) ∧ w'.cell? ⟨g2, o2, none⟩ = some (.int .i64 7) ∧ Post w') :
    Calls Tryd.prog 17 #[] w fun e w' => e = .returned (.bool true) ∧ Post w' := by
  have HN := hide hN; have HA := hide hA; have HE := hide hE; have HP := hide hP
  clear hN hA hE hP
  go_enter Tryd.func17, Tryd.ntmps17
  go_wp2_with fail
  refine (unhide HN).mono ?_
  rintro e w1 ⟨b, rfl, hw1⟩
  have HW1 := hide hw1
  clear hw1
  have hq := eqp_nil w1 b
  go_wp2_with (first | (go_at_call 12; refine (num_any _ _).mono ?_; rintro e w8 ⟨rfl, rfl⟩))
  refine (unhide HA _ _ (unhide HW1)).mono ?_
  rintro e w2 ⟨rfl, hw2⟩
  have HW2 := hide hw2
  clear hw2 hq
  go_wp2_with fail
  refine (unhide HE _ _ (unhide HW2)).mono ?_
  rintro e w3 ⟨rfl, hw3⟩
  have HW3 := hide hw3
  clear hw3
  go_wp2_with fail
  refine (unhide HP _ _ (unhide HW3)).mono ?_
  rintro e w4 ⟨g, c, g2, o2, rfl, c0, c1, c2, c3, hw4⟩
  have HW4 := hide hw4
  clear hw4
  go_wp2_with (first | (go_at_call 12; refine (num_any _ _).mono ?_; rintro e w8 ⟨rfl, rfl⟩))
  all_goals
    go_ret
    exact ⟨rfl, unhide HW4⟩
end Go.Proofs.YtogdekjklbbbiaaDoor

namespace Go.Proofs.YtogdekjklbbbiaaDoor
open Go.ChangeShapes Go.WideShapes Go.ChangeAt Go.RowKit
set_option linter.unusedSimpArgs false
set_option linter.unusedVariables false

/-- A pacer that was made behind w, and nothing of w is touched. -/
def PX (w : World) (p : Pace.PS) (c : Cn) (b : Nat) (wr : World) : Prop := ∃ y, PA wr b y p c ∧ Fr w wr (fun _ => False) ∧ ∀ k, y.own k → w.heap.size ≤ k
theorem PX.step {w wr w' : World} {b : Nat} {y y' : Lay} {p' : Pace.PS} {c' : Cn} (hf : Fr w wr (fun _ => False)) (hy : ∀ k, y.own k → w.heap.size ≤ k) (hP : PA w' b y' p' c') (hs : Stp wr w' y y') : PX w p' c' b w' := by
  refine ⟨y', hP, hf.trans hs.fr fun k hk q => ?_, fun k hk => ?_⟩
  · have := hy k q; omega
  · rcases Nat.lt_or_ge k w.heap.size with q | q
    · exact absurd (hs.ext k (Nat.lt_of_lt_of_le q hf.size) (Classical.byContradiction fun hn => by have := hy k hn; omega)) hk
    · exact q
theorem PX.alloc {w wr : World} {p : Pace.PS} {c : Cn} {b : Nat} (h : PX w p c b wr) (o : Obj) : PX w p c b (wr.alloc o) := by
  obtain ⟨y, h1, h2, h3⟩ := h
  exact ⟨y, h1.kept (O := fun _ => False) ((Fr.refl _ _).alloc o) (fun _ _ q => q), h2.alloc o, h3⟩
theorem PX.new {w w1 : World} (hf : Fr w w1 (fun _ => False)) (hz : 0 < w.heap.size) (q : Int) (h1 : 1500 ≤ q) (h2 : q ≤ 1000000) :
    Calls Tryd.prog 20 #[.int .i64 q] w1 fun e w' => ∃ b, e = .returned (.tuple #[.pointer (some ⟨b, 0, none⟩), .int .i64 0]) ∧ PX w (Pace.PS.new q.toNat) ⟨0, 0, 0, 0, 0, 0⟩ b w' := by
  have hs := hf.size
  refine (pa_new w1 (by omega) q h1 h2).mono ?_
  rintro e w' ⟨b, y, rfl, hP, hfr, hy⟩
  exact ⟨b, rfl, y, hP, hf.trans hfr (fun _ _ q => q), fun k hk => by have := hy k hk; omega⟩
/-- How far the counts have come. -/
structure Bd (p : Pace.PS) (c : Cn) (k : Nat) : Prop where
  nw : p.newest ≤ k
  tk : c.taken ≤ k
  rf : c.refused ≤ k
  sn : c.sent ≤ 64 * k
  dr : c.dropped ≤ 8 * k
theorem poll_len {p : Pace.PS} (hI : p.Inv) {now : Nat} (hn : now ≤ 4000000000000000000) (B : Nat) : (p.poll now B).1.length ≤ 64 ∧ total (p.poll now B).1 ≤ 64 := by
  refine rel_len8 ((hI.pi.tick hn).admit) ?_ B
  have h1 := congrArg List.length (Pace.admit_nums (Pace.tick p.st now) p.asks)
  have h2 := congrArg List.length (Pace.tick_nums p.st now)
  simp at h1 h2
  rw [h1]
  have := hI.few
  omega
theorem poll_clock (p : Pace.PS) (now B : Nat) : (p.poll now B).2.st.clock = max p.st.clock now := by
  show (Pace.rel _ _).2.clock = _
  rw [rel_clock, admit_clock]; rfl
theorem poll_few {p : Pace.PS} {now B : Nat} (h : (p.poll now B).1.length < B) : Pace.due (p.poll now B).2.st = none := Pace.rel_few B h
theorem rel_le (n : Nat) : ∀ s : Pace.St, (Pace.rel n s).1.length ≤ n := by
  induction n with
  | zero => intro s; exact Nat.le_refl _
  | succ n ih =>
    intro s
    unfold Pace.rel
    split
    · exact Nat.zero_le _
    · simp only [List.length_cons]; have := ih (Pace.send s ‹_›).2; omega
/-- When all have been sent, none is armed. -/
theorem poll_all {p : Pace.PS} (hI : p.Inv) {now : Nat} (hn : now ≤ 4000000000000000000) : Pace.due (p.poll now 64).2.st = none := by
  rcases Nat.lt_or_ge (p.poll now 64).1.length 64 with q | q
  · exact poll_few q
  · have hpi := (hI.pi.tick hn).admit
    have h1 := hpi.rel_len 64
    have h3 := waits_le fun x hx => (hpi.wf.F x hx).few
    have h4 : (Pace.admit (Pace.tick p.st now) p.asks).fl.length ≤ 8 := by
      have h1 := congrArg List.length (Pace.admit_nums (Pace.tick p.st now) p.asks)
      have h2 := congrArg List.length (Pace.tick_nums p.st now)
      simp at h1 h2
      rw [h1]
      have := hI.few
      omega
    have q' : 64 ≤ (Pace.rel 64 (Pace.admit (Pace.tick p.st now) p.asks)).1.length := q
    have hw : Pace.waits (Pace.rel 64 (Pace.admit (Pace.tick p.st now) p.asks)).2.fl = 0 := by omega
    have hpi2 := hpi.rel 64
    unfold Pace.due
    cases hb : Pace.best (p.poll now 64).2.st.A with
    | none => rfl
    | some a =>
      exfalso
      obtain ⟨x, hx, ho⟩ := hpi2.wf.A a (Pace.best_some hb).1
      have hxm := (Pace.look_some hx).1
      have h5 := (hpi2.wf.F x hxm).adm
      have h6 := ho.pos
      have h7 := ho.le
      have h8 : x.pk.length ≤ Pace.waits (Pace.rel 64 (Pace.admit (Pace.tick p.st now) p.asks)).2.fl := by
        unfold Pace.waits
        exact le_sum (List.mem_map.2 ⟨x, hxm, rfl⟩)
      omega
where
  le_sum {l : List Nat} {n : Nat} (h : n ∈ l) : n ≤ l.sum := by
    induction l with
    | nil => cases h
    | cons m l ih =>
      simp only [List.sum_cons]
      rcases List.mem_cons.1 h with rfl | q
      · omega
      · have := ih q; omega
theorem alive_poll : ((((Pace.PS.new 1500).add 1000 1500).enq 1 7 100).poll 5 9).1 = [(1, 5, [(7, 100)])] := by
  have hp : 100 * Pace.parts ≤ 1500 * Pace.parts := Nat.mul_le_mul_right _ (by omega)
  have hS : Pace.admit (Pace.tick (((Pace.PS.new 1500).add 1000 1500).enq 1 7 100).st 5) (((Pace.PS.new 1500).add 1000 1500).enq 1 7 100).asks = ⟨1500, 5, [⟨1, 1000, 1500, 1500 * Pace.parts, [(7, 100)], 1⟩], [⟨1, 5, 1⟩]⟩ := by
    simp [Pace.PS.new, Pace.PS.add, Pace.PS.enq, Pace.tick, Pace.admit, Pace.adm1, Pace.upd, Pace.look, Pace.withPk, Pace.arm, Pace.Fl.size, Pace.fit, Pace.Fl.instant, Pace.til, Pace.bytes, Pace.off, hp]
  have hd : Pace.due ⟨1500, 5, [⟨1, 1000, 1500, 1500 * Pace.parts, [(7, 100)], 1⟩], [⟨1, 5, 1⟩]⟩ = some ⟨1, 5, 1⟩ := by simp [Pace.due, Pace.best, Option.filter]
  have hs : Pace.send ⟨1500, 5, [⟨1, 1000, 1500, 1500 * Pace.parts, [(7, 100)], 1⟩], [⟨1, 5, 1⟩]⟩ ⟨1, 5, 1⟩ = ((1, 5, [(7, 100)]), ⟨1500, 5, [⟨1, 1000, 1500, 1500 * Pace.parts - 100 * Pace.parts, [], 0⟩], []⟩) := by
    simp [Pace.send, Pace.upd, Pace.sentFl, Pace.look, Pace.arm, Pace.off, Pace.bytes]
  have hd2 : Pace.due ⟨1500, 5, [⟨1, 1000, 1500, 1500 * Pace.parts - 100 * Pace.parts, [], 0⟩], []⟩ = none := by simp [Pace.due, Pace.best]
  show (Pace.rel 9 (Pace.admit (Pace.tick _ 5) _)).1 = _
  rw [hS]
  show (Pace.rel (8 + 1) _).1 = _
  rw [Pace.rel, hd]
  simp only
  rw [hs, rel_none hd2]
end Go.Proofs.YtogdekjklbbbiaaDoor
