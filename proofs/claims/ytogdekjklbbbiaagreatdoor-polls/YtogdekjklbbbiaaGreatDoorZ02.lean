import Derived.Test.YtogdekjklbbbiaaGreatDoorCh
import Derived.Maps.AppendAt
import Derived.Deep.RegionLaw
import Derived.Test.YtogdekjklbbbiaaGreatDoorRows
import Derived.LaidEqlPtr
import Derived.WalkKit
import Derived.ProofKit
import Derived.OpenShut
import Derived.Handy
import Derived.Laws.Bits64b
import Derived.Deep.QuietTactic
import Derived.BigQuiet
set_option maxRecDepth 100000
namespace Go.Proofs.YtogdekjklbbbiaaGreatDoor
open Go.ChangeShapes Go.WideShapes Go.ChangeAt Go.RowKit
set_option linter.unusedSimpArgs false
set_option linter.unusedVariables false

/-- An append: in place, or elsewhere, and then nothing that was there has changed. -/
theorem run_append2 {P : Program} (w : World) (base : Nat) (t ty e : TypeId) (i : TypeInfo) (z : Value) (size bytes : Nat) (ht : P.underlying t = some (.slice e)) (hi : P.info? e = some i) (hz : i.zero = some z)
    (hsize : i.size = size) (hby : i.bytes = bytes) (hzs : z.cells.size = size) (hsz : 0 < size)
    (v : Value) (n : Nat) (xs : List Value) (hown : w.ownsRow base e size v n xs)
    (a : Addr) (m c : Nat) (news : List Value) (hl : news.length = m * size) (hnews : ∀ j u, news[j]? = some u → w.cell? (a.add j) = some u) (h1 : ∀ u ∈ news, u.oneCell' = true)
    (h63 : n + m ≤ maxLen) (hbytes : (n + m) * bytes ≤ 140737488355328) (hbase : base ≤ w.heap.size) :
    ∃ v' w', (Builtin.append_ #[t, t] ty #[v, .slice (some a) m c]).run P w = .ok v' w' ∧ w'.ownsRow base e size v' (n + m) (xs ++ news) ∧
      ((v'.ownBlock = v.ownBlock ∧ w.grownBy w' v.ownBlock) ∨ (v'.ownBlock = some w.heap.size ∧ w.grownBy w' none)) := by
  obtain ⟨v', w', hr, h2, h3, h4, h5⟩ := run_append_own_at (P := P) w base t ty e i z size bytes ht hi hz hsize hby hzs hsz v n xs hown a m c news hl hnews h1 h63 hbytes hbase
  refine ⟨v', w', hr, h2, ?_⟩
  rcases h5 with h5 | h5
  · exact .inl ⟨h5, h3⟩
  · refine .inr ⟨h5, ?_⟩
    subst hsize
    subst hby
    have hsmall : n + m ≤ 9223372036854775807 := by simp only [maxLen] at h63; omega
    rcases hown.2 with ⟨rfl, rfl⟩ | ⟨g, cap, cur, rfl, hbg, hg, hnc, hcm, hcs, htake⟩
    · exact h3
    · by_cases hroom : n + m ≤ cap
      · have hfit : n * i.size + news.length ≤ cur.size := by rw [hl, hcs, ← Nat.add_mul]; exact Nat.mul_le_mul_right _ hroom
        have hr2 := run_append_room (P := P) w t ty e i ht hi g n cap cur hg a m c news hl hnews h1 hroom hfit
        rw [hr2] at hr
        injection hr with e1 e2
        rw [← e1] at h5
        simp [Value.ownBlock] at h5
        have := (Array.getElem?_eq_some_iff.1 hg).1
        omega
      · have hr2 := run_append_grow (P := P) w t ty e i z ht hi hz ⟨g, 0, none⟩ n cap xs hown.1 (hown.cells (g := g) rfl) a m c news hl hnews (by omega) (by omega) (growslice_fits (by omega) hbytes)
        rw [hr2] at hr
        injection hr with e1 e2
        rw [← e2]
        exact ⟨rfl, rfl, rfl, by simp, fun k hk _ => (World.grownBy_alloc w.drew _ none).block k hk (by simp)⟩
theorem wpList_append2 {P : Program} {w : World} {ops : Array Oper} {rest : List Oper} {o : Oper} {a : Act} {Q : Exit → Act → World → Prop} (hgd : o.guard = none) (s x : Operand) (t : TypeId)
    (ho : o.op = .call { callee := .builtin .append, args := #[s, x], argTypes := #[t, t] })
    (base : Nat) (e : TypeId) (i : TypeInfo) (z : Value) (size bytes : Nat) (ht : P.underlying t = some (.slice e)) (hi : P.info? e = some i) (hz : i.zero = some z)
    (hsize : i.size = size) (hby : i.bytes = bytes) (hzs : z.cells.size = size) (hsz : 0 < size)
    (v : Value) (n : Nat) (xs : List Value) (hs : a.eval s = v) (hown : w.ownsRow base e size v n xs)
    (ad : Addr) (m c : Nat) (news : List Value) (hx : a.eval x = .slice (some ad) m c) (hl : news.length = m * size) (hnews : ∀ j u, news[j]? = some u → w.cell? (ad.add j) = some u) (h1 : ∀ u ∈ news, u.oneCell' = true)
    (h63 : n + m ≤ maxLen) (hbytes : (n + m) * bytes ≤ 140737488355328) (hbase : base ≤ w.heap.size)
    (h : ∀ v' w', w'.ownsRow base e size v' (n + m) (xs ++ news) → ((v'.ownBlock = v.ownBlock ∧ w.grownBy w' v.ownBlock) ∨ (v'.ownBlock = some w.heap.size ∧ w.grownBy w' none)) → wpList P ops Q rest (a.put o.dst v') w') :
    wpList P ops Q (o :: rest) a w := by
  refine wpList_plain hgd fun K hK => ?_
  obtain ⟨v', w', hr, h2, h3⟩ := run_append2 (P := P) w base t o.type e i z size bytes ht hi hz hsize hby hzs hsz v n xs hown ad m c news hl hnews h1 h63 hbytes hbase
  unfold Oper.wp
  simp [execOp, ho, resolve, invoke, builtin, hs, hx, hr, Result.andThen]
  exact hK _ _ (h v' w' h2 h3)
theorem step_append2 {P : Program} {ops : Array Oper} {o : Oper} {a : Act} {w : World} {K : Act → World → Prop} {Q : Exit → Act → World → Prop} {E : Prop}
    (hg : o.guard = none) (s x : Operand) (t : TypeId) (hop : o.op = Op.call { callee := Callee.builtin Builtin.append, args := #[s, x], argTypes := #[t, t] })
    (base : Nat) (e : TypeId) (i : TypeInfo) (z : Value) (size bytes : Nat) (ht : P.underlying t = some (.slice e)) (hi : P.info? e = some i) (hz : i.zero = some z)
    (hsize : i.size = size) (hby : i.bytes = bytes) (hzs : z.cells.size = size) (hsz : 0 < size)
    (v : Value) (n : Nat) (xs : List Value) (hs : a.eval s = v) (hown : w.ownsRow base e size v n xs)
    (ad : Addr) (m c : Nat) (news : List Value) (hx : a.eval x = .slice (some ad) m c) (hl : news.length = m * size) (hnews : ∀ j u, news[j]? = some u → w.cell? (ad.add j) = some u) (h1 : ∀ u ∈ news, u.oneCell' = true)
    (h63 : n + m ≤ maxLen) (hbytes : (n + m) * bytes ≤ 140737488355328) (hbase : base ≤ w.heap.size)
    (hK : ∀ v' w', w'.ownsRow base e size v' (n + m) (xs ++ news) → ((v'.ownBlock = v.ownBlock ∧ w.grownBy w' v.ownBlock) ∨ (v'.ownBlock = some w.heap.size ∧ w.grownBy w' none)) → K (a.put o.dst v') w') :
    if Region.wanted o (yielded ops a.tmps) = true then Oper.wp P o a w K Q else E := by
  have hw : Region.wanted o (yielded ops a.tmps) = true := by simp [Region.wanted, hg]
  rw [if_pos hw]
  obtain ⟨v', w', hr, h2, h3⟩ := run_append2 (P := P) w base t o.type e i z size bytes ht hi hz hsize hby hzs hsz v n xs hown ad m c news hl hnews h1 h63 hbytes hbase
  unfold Oper.wp
  simp [execOp, hop, resolve, invoke, builtin, hs, hx, hr, Result.andThen]
  exact hK v' w' h2 h3
end Go.Proofs.YtogdekjklbbbiaaGreatDoor

namespace Go.Proofs.YtogdekjklbbbiaaGreatDoor
open Go.ChangeShapes Go.WideShapes Go.ChangeAt Go.RowKit
set_option linter.unusedSimpArgs false
set_option linter.unusedVariables false
theorem cells_of {w : World} {x o : Nat} {v : Value} (h : w.cell? ⟨x, o, none⟩ = some v) : ∃ c e f, w.heap[x]? = some (.cells c e f) := by
  unfold World.cell? at h
  split at h
  · exact ⟨_, _, _, by assumption⟩
  · cases h
theorem sameAddr_ne {P : Program} {w : World} {x y : Nat} {u v : Value} (hxy : x ≠ y) (hx : w.cell? ⟨x, 0, none⟩ = some u) (hy : w.cell? ⟨y, 0, none⟩ = some v) (hf : ∀ o, w.frozen? ⟨x, o, none⟩ = false) (hf' : ∀ o, w.frozen? ⟨y, o, none⟩ = false) :
    (sameAddr ⟨x, 0, none⟩ ⟨y, 0, none⟩).run P w = .ok false w := by
  obtain ⟨c, e, f, hx⟩ := cells_of hx
  obtain ⟨c', e', f', hy⟩ := cells_of hy
  simp [sameAddr, hxy, hf, hf', hx, hy, noView, viewAt, World.shape?, mayBeOne, stringish]
theorem ptrinfo : (Tryz.prog.info? 166).map (fun i => i.size) = some 8 := by kernel_rfl
theorem eqp_ne {w : World} {x y : Nat} {u v : Value} (hxy : x ≠ y) (hx : w.cell? ⟨x, 0, none⟩ = some u) (hy : w.cell? ⟨y, 0, none⟩ = some v) (hf : ∀ o, w.frozen? ⟨x, o, none⟩ = false) (hf' : ∀ o, w.frozen? ⟨y, o, none⟩ = false) :
    (binOp .eql 159 (.pointer (some ⟨x, 0, none⟩)) (.pointer (some ⟨y, 0, none⟩))).run Tryz.prog w = .ok (.bool false) w := by
  obtain ⟨j, hj, hs⟩ : ∃ j, Tryz.prog.info? 166 = some j ∧ j.size = 8 := by
    have := ptrinfo
    cases h : Tryz.prog.info? 166 with
    | none => rw [h] at this; cases this
    | some j => rw [h] at this; exact ⟨j, rfl, by simpa using this⟩
  have hsa := sameAddr_ne (P := Tryz.prog) hxy hx hy hf hf'
  have h : ∀ d : Nat, (Op.equalIn (d + 1) 159 (.pointer (some ⟨x, 0, none⟩)) (.pointer (some ⟨y, 0, none⟩))).run Tryz.prog w = .ok false w := fun d => by
    simp [Op.equalIn, run_underlying Tryz.underlying159, sizeOf, typeInfo, hj, hs, hsa]
  simp only [binOp]
  simp [Op.equal, Op.maxDepth, h 9999]
theorem eqp_same (w : World) (x : Nat) : (binOp .eql 159 (.pointer (some ⟨x, 0, none⟩)) (.pointer (some ⟨x, 0, none⟩))).run Tryz.prog w = .ok (.bool true) w := by
  obtain ⟨j, hj, hs⟩ : ∃ j, Tryz.prog.info? 166 = some j ∧ j.size = 8 := by
    have := ptrinfo
    cases h : Tryz.prog.info? 166 with
    | none => rw [h] at this; cases this
    | some j => rw [h] at this; exact ⟨j, rfl, by simpa using this⟩
  exact run_eql_ptr_same w _ Tryz.underlying159 hj
end Go.Proofs.YtogdekjklbbbiaaGreatDoor

namespace Go.Proofs.YtogdekjklbbbiaaGreatDoor
open Go.ChangeShapes Go.WideShapes Go.ChangeAt Go.RowKit


theorem Grown.trans {a b c : World} (h : Grown a b) (k : Grown b c) : Grown a c := by
  refine ⟨⟨k.1.1.trans h.1.1, k.1.2.1.trans h.1.2.1, fun i hi => ?_⟩, fun x => (k.2.1 x).trans (h.2.1 x), Nat.le_trans h.2.2 k.2.2⟩
  exact (World.keptBut_trans h.1 k.1).2.2 i hi
theorem Grown.drewN {W w' : World} (h : Grown W w') (n : Nat) : Grown W (w'.drewN n) := h

theorem and31 (n : Int) : bits .and .i64 n 2147483647 = n % 2147483648 := by
  have h127 : (BitVec.ofInt 64 2147483647).toNat = 2 ^ 31 - 1 := by decide
  have key : (BitVec.ofInt 64 n &&& BitVec.ofInt 64 2147483647).toNat = (n % ((2 ^ 64 : Nat) : Int)).toNat % 2 ^ 31 := by
    rw [BitVec.toNat_and, BitVec.toNat_ofInt, h127, Nat.and_two_pow_sub_one_eq_mod]
  show IntKind.i64.wrap ((BitVec.ofInt 64 n &&& BitVec.ofInt 64 2147483647).toNat : Nat) = n % 2147483648
  rw [key, IntKind.wrap_i64]
  omega

/-- Five limbs as a value. -/
def Lv (a b c d e : Int) : Value := .agg #[.int .i64 a, .int .i64 b, .int .i64 c, .int .i64 d, .int .i64 e]

set_option maxHeartbeats 400000 in
theorem limbs_any (n : Int) (h0 : 0 ≤ n) (h1 : n < 9223372036854775808) (w : World) :
    Calls Tryz.prog 161 #[.int .i64 n] w fun e w' => ∃ a b c : Int, 0 ≤ a ∧ a < 2147483648 ∧ 0 ≤ b ∧ b < 2147483648 ∧ 0 ≤ c ∧ c ≤ 1 ∧ n = a + 2147483648 * b + 4611686018427387904 * c ∧
      e = .returned (.agg #[.int .i64 a, .int .i64 b, .int .i64 c, .int .i64 0, .int .i64 0]) ∧
      (w.alloc (.cells #[.int .i64 a, .int .i64 b, .int .i64 c, .int .i64 0, .int .i64 0] 266)).alloc (.cells #[.int .i64 a, .int .i64 b, .int .i64 c, .int .i64 0, .int .i64 0] 266) = w' := by
  have e2 : n / 2147483648 / 2147483648 % 2147483648 = n / 4611686018427387904 := by omega
  have e3 : n / 2147483648 / 2147483648 / 2147483648 % 2147483648 = 0 := by omega
  have e4 : n / 2147483648 / 2147483648 / 2147483648 / 2147483648 % 2147483648 = 0 := by omega
  have E2 := hide e2; have E3 := hide e3; have E4 := hide e4
  clear e2 e3 e4
  go_enter Tryz.func161, Tryz.ntmps161
  go_wp2
  go_rounds 6
  simp only [and31]
  go_returns
  rw [unhide E2, unhide E3, unhide E4]
  exact ⟨_, _, _, by omega, by omega, by omega, by omega, by omega, by omega, by omega, rfl, rfl⟩
end Go.Proofs.YtogdekjklbbbiaaGreatDoor

namespace Go.Proofs.YtogdekjklbbbiaaGreatDoor

theorem spl (v : Int) (h0 : 0 ≤ v) : ∃ o c : Int, v % 2147483648 = o ∧ v / 2147483648 = c ∧ v = o + 2147483648 * c ∧ 0 ≤ o ∧ o < 2147483648 ∧ 0 ≤ c :=
  ⟨_, _, rfl, rfl, by omega, by omega, by omega, by omega⟩

theorem prodb {x y : Int} (m n : Int) (hx0 : 0 ≤ x) (hx : x ≤ m) (hy0 : 0 ≤ y) (hy : y ≤ n) : 0 ≤ x * y ∧ x * y ≤ m * n :=
  ⟨Int.mul_nonneg hx0 hy0, Int.mul_le_mul hx hy hy0 (Int.le_trans hx0 hx)⟩

theorem expand (x0 x1 x2 y0 y1 y2 : Int) :
    (x0 + 2147483648 * x1 + 4611686018427387904 * x2) * (y0 + 2147483648 * y1 + 4611686018427387904 * y2) =
      x0 * y0 + 2147483648 * (x0 * y1 + x1 * y0) + 4611686018427387904 * (x0 * y2 + x1 * y1 + x2 * y0) + 9903520314283042199192993792 * (x1 * y2 + x2 * y1) + 21267647932558653966460912964485513216 * (x2 * y2) := by
  grind

structure Chain (x0 x1 x2 y0 y1 y2 o1 o4 o7 o8 o9 : Int) : Prop where
  val : o1 + 2147483648 * o4 + 4611686018427387904 * o7 + 9903520314283042199192993792 * o8 + 21267647932558653966460912964485513216 * o9 = (x0 + 2147483648 * x1 + 4611686018427387904 * x2) * (y0 + 2147483648 * y1 + 4611686018427387904 * y2)
  b1 : 0 ≤ o1 ∧ o1 < 2147483648
  b4 : 0 ≤ o4 ∧ o4 < 2147483648
  b7 : 0 ≤ o7 ∧ o7 < 2147483648
  b8 : 0 ≤ o8 ∧ o8 < 2147483648
  b9 : 0 ≤ o9 ∧ o9 < 2147483648

theorem chain (x0 x1 x2 y0 y1 y2 : Int) (hx0 : 0 ≤ x0) (hx0' : x0 < 2147483648) (hx1 : 0 ≤ x1) (hx1' : x1 < 2147483648) (hx2 : 0 ≤ x2) (hx2' : x2 ≤ 1)
    (hy0 : 0 ≤ y0) (hy0' : y0 < 2147483648) (hy1 : 0 ≤ y1) (hy1' : y1 < 2147483648) (hy2 : 0 ≤ y2) (hy2' : y2 ≤ 1) :
    ∃ o1 c1 o2 c2 o3 c3 o4 c4 o5 c5 o6 c6 o7 c7 o8 c8 o9 c9 : Int,
      (x0 * y0 % 2147483648 = o1 ∧ x0 * y0 / 2147483648 = c1 ∧ 0 ≤ x0 * y0 ∧ x0 * y0 ≤ 4611686014132420609 ∧ 0 ≤ o1 ∧ o1 < 2147483648 ∧ 0 ≤ c1 ∧ c1 < 2147483648) ∧
      ((x0 * y1 + c1) % 2147483648 = o2 ∧ (x0 * y1 + c1) / 2147483648 = c2 ∧ 0 ≤ x0 * y1 ∧ x0 * y1 ≤ 4611686014132420609 ∧ 0 ≤ o2 ∧ o2 < 2147483648 ∧ 0 ≤ c2 ∧ c2 < 2147483648) ∧
      ((x0 * y2 + c2) % 2147483648 = o3 ∧ (x0 * y2 + c2) / 2147483648 = c3 ∧ 0 ≤ x0 * y2 ∧ x0 * y2 ≤ 2147483647 ∧ 0 ≤ o3 ∧ o3 < 2147483648 ∧ 0 ≤ c3 ∧ c3 < 2147483648) ∧
      ((o2 + x1 * y0) % 2147483648 = o4 ∧ (o2 + x1 * y0) / 2147483648 = c4 ∧ 0 ≤ x1 * y0 ∧ x1 * y0 ≤ 4611686014132420609 ∧ 0 ≤ o4 ∧ o4 < 2147483648 ∧ 0 ≤ c4 ∧ c4 < 2147483648) ∧
      ((o3 + x1 * y1 + c4) % 2147483648 = o5 ∧ (o3 + x1 * y1 + c4) / 2147483648 = c5 ∧ 0 ≤ x1 * y1 ∧ x1 * y1 ≤ 4611686014132420609 ∧ 0 ≤ o5 ∧ o5 < 2147483648 ∧ 0 ≤ c5 ∧ c5 < 2147483648) ∧
      ((c3 + x1 * y2 + c5) % 2147483648 = o6 ∧ (c3 + x1 * y2 + c5) / 2147483648 = c6 ∧ 0 ≤ x1 * y2 ∧ x1 * y2 ≤ 2147483647 ∧ 0 ≤ o6 ∧ o6 < 2147483648 ∧ 0 ≤ c6 ∧ c6 < 2147483648) ∧
      ((o5 + x2 * y0) % 2147483648 = o7 ∧ (o5 + x2 * y0) / 2147483648 = c7 ∧ 0 ≤ x2 * y0 ∧ x2 * y0 ≤ 2147483647 ∧ 0 ≤ o7 ∧ o7 < 2147483648 ∧ 0 ≤ c7 ∧ c7 < 2147483648) ∧
      ((o6 + x2 * y1 + c7) % 2147483648 = o8 ∧ (o6 + x2 * y1 + c7) / 2147483648 = c8 ∧ 0 ≤ x2 * y1 ∧ x2 * y1 ≤ 2147483647 ∧ 0 ≤ o8 ∧ o8 < 2147483648 ∧ 0 ≤ c8 ∧ c8 < 2147483648) ∧
      ((c6 + x2 * y2 + c8) % 2147483648 = o9 ∧ (c6 + x2 * y2 + c8) / 2147483648 = c9 ∧ 0 ≤ x2 * y2 ∧ x2 * y2 ≤ 1 ∧ 0 ≤ o9 ∧ o9 < 2147483648 ∧ 0 ≤ c9 ∧ c9 < 2147483648) ∧
      Chain x0 x1 x2 y0 y1 y2 o1 o4 o7 o8 o9 := by
  have p00 := prodb 2147483647 2147483647 hx0 (by omega) hy0 (by omega)
  have p01 := prodb 2147483647 2147483647 hx0 (by omega) hy1 (by omega)
  have p02 := prodb 2147483647 1 hx0 (by omega) hy2 (by omega)
  have p10 := prodb 2147483647 2147483647 hx1 (by omega) hy0 (by omega)
  have p11 := prodb 2147483647 2147483647 hx1 (by omega) hy1 (by omega)
  have p12 := prodb 2147483647 1 hx1 (by omega) hy2 (by omega)
  have p20 := prodb 1 2147483647 hx2 (by omega) hy0 (by omega)
  have p21 := prodb 1 2147483647 hx2 (by omega) hy1 (by omega)
  have p22 := prodb 1 1 hx2 (by omega) hy2 (by omega)
  have hE := expand x0 x1 x2 y0 y1 y2
  obtain ⟨o1, c1, e1, f1, s1, l1, u1, k1⟩ := spl (x0 * y0) (by omega)
  obtain ⟨o2, c2, e2, f2, s2, l2, u2, k2⟩ := spl (x0 * y1 + c1) (by omega)
  obtain ⟨o3, c3, e3, f3, s3, l3, u3, k3⟩ := spl (x0 * y2 + c2) (by omega)
  obtain ⟨o4, c4, e4, f4, s4, l4, u4, k4⟩ := spl (o2 + x1 * y0) (by omega)
  obtain ⟨o5, c5, e5, f5, s5, l5, u5, k5⟩ := spl (o3 + x1 * y1 + c4) (by omega)
  obtain ⟨o6, c6, e6, f6, s6, l6, u6, k6⟩ := spl (c3 + x1 * y2 + c5) (by omega)
  obtain ⟨o7, c7, e7, f7, s7, l7, u7, k7⟩ := spl (o5 + x2 * y0) (by omega)
  obtain ⟨o8, c8, e8, f8, s8, l8, u8, k8⟩ := spl (o6 + x2 * y1 + c7) (by omega)
  obtain ⟨o9, c9, e9, f9, s9, l9, u9, k9⟩ := spl (c6 + x2 * y2 + c8) (by omega)
  have b1 : c1 < 2147483648 := by omega
  have b2 : c2 < 2147483648 := by omega
  have b3 : c3 < 2147483648 := by omega
  have b4 : c4 < 2147483648 := by omega
  have b5 : c5 < 2147483648 := by omega
  have b6 : c6 < 2147483648 := by omega
  have b7 : c7 < 2147483648 := by omega
  have b8 : c8 < 2147483648 := by omega
  have b9 : c9 < 2147483648 := by omega
  have g3 : c3 ≤ 1 := by omega
  have g6 : c6 ≤ 2 := by omega
  have g7 : c7 ≤ 1 := by omega
  have g8 : c8 ≤ 1 := by omega
  have g9 : c9 = 0 := by omega
  refine ⟨o1, c1, o2, c2, o3, c3, o4, c4, o5, c5, o6, c6, o7, c7, o8, c8, o9, c9, ⟨e1, f1, p00.1, p00.2, l1, u1, k1, b1⟩, ⟨e2, f2, p01.1, p01.2, l2, u2, k2, b2⟩, ⟨e3, f3, p02.1, p02.2, l3, u3, k3, b3⟩, ⟨e4, f4, p10.1, p10.2, l4, u4, k4, b4⟩, ⟨e5, f5, p11.1, p11.2, l5, u5, k5, b5⟩, ⟨e6, f6, p12.1, p12.2, l6, u6, k6, b6⟩, ⟨e7, f7, p20.1, p20.2, l7, u7, k7, b7⟩, ⟨e8, f8, p21.1, p21.2, l8, u8, k8, b8⟩, ⟨e9, f9, p22.1, p22.2, l9, u9, k9, b9⟩, ⟨?_, ⟨l1, u1⟩, ⟨l4, u4⟩, ⟨l7, u7⟩, ⟨l8, u8⟩, ⟨l9, u9⟩⟩⟩
  rw [hE]
  clear e1 f1 e2 f2 e3 f3 e4 f4 e5 f5 e6 f6 e7 f7 e8 f8 e9 f9 hE
  omega
end Go.Proofs.YtogdekjklbbbiaaGreatDoor

namespace Go.Proofs.YtogdekjklbbbiaaGreatDoor
open Go.ChangeShapes Go.WideShapes Go.ChangeAt Go.RowKit
theorem and32 (a : Int) (h0 : 0 ≤ a) (h1 : a < 18446744073709551616) : bits .and .u64 a 4294967295 = a % 4294967296 := by
  obtain ⟨n, rfl⟩ := Int.eq_ofNat_of_zero_le h0
  have h := bits_and_u64_nat n 4294967295 (by omega) (by omega)
  rw [show n &&& 4294967295 = n % 4294967296 from Nat.and_two_pow_sub_one_eq_mod n 32] at h
  exact h.trans (by omega)
theorem ret2_int {a b c d : Int} {k l : IntKind} (h : a = c) (h' : b = d) : Ending.returned (.tuple #[.int k a, .int l b]) = .returned (.tuple #[.int k c, .int l d]) := by rw [h, h']

theorem mulparts (x y : Int) (hx0 : 0 ≤ x) (hx : x < 18446744073709551616) (hy0 : 0 ≤ y) (hy : y < 18446744073709551616) :
    ∃ a b c d g s t u : Int, bits .and .u64 x 4294967295 = b ∧ x / 4294967296 = a ∧ bits .and .u64 y 4294967295 = d ∧ y / 4294967296 = c ∧
      b * d / 4294967296 = g ∧ bits .and .u64 (a * d + g) 4294967295 = s ∧ (a * d + g) / 4294967296 = t ∧ (s + b * c) / 4294967296 = u ∧
      (0 ≤ a ∧ a ≤ 4294967295) ∧ (0 ≤ b ∧ b ≤ 4294967295) ∧ (0 ≤ c ∧ c ≤ 4294967295) ∧ (0 ≤ d ∧ d ≤ 4294967295) ∧ (0 ≤ g ∧ g ≤ 4294967295) ∧ (0 ≤ s ∧ s ≤ 4294967295) ∧ (0 ≤ t ∧ t ≤ 4294967295) ∧ (0 ≤ u ∧ u ≤ 4294967295) ∧
      (0 ≤ b * d ∧ b * d ≤ 18446744065119617025) ∧ (0 ≤ a * d ∧ a * d ≤ 18446744065119617025) ∧ (0 ≤ b * c ∧ b * c ≤ 18446744065119617025) ∧ (0 ≤ a * c ∧ a * c ≤ 18446744065119617025) ∧ a * c + t + u = x * y / 18446744073709551616 := by
  have hb := and32 x hx0 hx
  have hd := and32 y hy0 hy
  have pbd := prodb (x := x % 4294967296) (y := y % 4294967296) 4294967295 4294967295 (by omega) (by omega) (by omega) (by omega)
  have pad := prodb (x := x / 4294967296) (y := y % 4294967296) 4294967295 4294967295 (by omega) (by omega) (by omega) (by omega)
  have pbc := prodb (x := x % 4294967296) (y := y / 4294967296) 4294967295 4294967295 (by omega) (by omega) (by omega) (by omega)
  have pac := prodb (x := x / 4294967296) (y := y / 4294967296) 4294967295 4294967295 (by omega) (by omega) (by omega) (by omega)
  have E : x * y = (x / 4294967296) * (y / 4294967296) * 18446744073709551616 + ((x / 4294967296) * (y % 4294967296) + (x % 4294967296) * (y / 4294967296)) * 4294967296 + (x % 4294967296) * (y % 4294967296) := by
    have e1 : x = 4294967296 * (x / 4294967296) + x % 4294967296 := by omega
    have e2 : y = 4294967296 * (y / 4294967296) + y % 4294967296 := by omega
    generalize x / 4294967296 = a at *
    generalize x % 4294967296 = b at *
    generalize y / 4294967296 = c at *
    generalize y % 4294967296 = d at *
    rw [e1, e2]
    grind
  rw [E]
  have ra : 0 ≤ x / 4294967296 ∧ x / 4294967296 ≤ 4294967295 := by omega
  have rb : 0 ≤ x % 4294967296 ∧ x % 4294967296 ≤ 4294967295 := by omega
  have rc : 0 ≤ y / 4294967296 ∧ y / 4294967296 ≤ 4294967295 := by omega
  have rd : 0 ≤ y % 4294967296 ∧ y % 4294967296 ≤ 4294967295 := by omega
  generalize x / 4294967296 = a at *
  generalize x % 4294967296 = b at *
  generalize y / 4294967296 = c at *
  generalize y % 4294967296 = d at *
  refine ⟨a, b, c, d, b * d / 4294967296, (a * d + b * d / 4294967296) % 4294967296, (a * d + b * d / 4294967296) / 4294967296, ((a * d + b * d / 4294967296) % 4294967296 + b * c) / 4294967296, hb, rfl, hd, rfl, rfl, ?_, rfl, rfl, ra, rb, rc, rd, ?_, ?_, ?_, ?_, pbd, pad, pbc, pac, ?_⟩
  · exact and32 _ (by omega) (by omega)
  all_goals (generalize a * c = ac at *; generalize a * d = ad at *; generalize b * c = bc at *; generalize b * d = bd at *; clear hb hd E; omega)

set_option maxHeartbeats 1000000 in
theorem mul64_any (x y : Int) (hx0 : 0 ≤ x) (hx : x < 18446744073709551616) (hy0 : 0 ≤ y) (hy : y < 18446744073709551616) (w : World) :
    Calls Tryz.prog 155 #[.int .u64 x, .int .u64 y] w fun e w' => e = .returned (.tuple #[.int .u64 (x * y / 18446744073709551616), .int .u64 (x * y % 18446744073709551616)]) ∧ w' = w := by
  obtain ⟨a, b, c, d, g, s, t, u, e1, e2, e3, e4, e5, e6, e7, e8, ⟨a0, a1⟩, ⟨b0, b1⟩, ⟨c0, c1⟩, ⟨d0, d1⟩, ⟨g0, g1⟩, ⟨s0, s1⟩, ⟨t0, t1⟩, ⟨u0, u1⟩, ⟨bd0, bd1⟩, ⟨ad0, ad1⟩, ⟨bc0, bc1⟩, ⟨ac0, ac1⟩, hi⟩ := mulparts x y hx0 hx hy0 hy
  have hlo : IntKind.u64.wrap (x * y) = x * y % 18446744073709551616 := IntKind.wrap_u64 _
  have HI := hide hi; have HL := hide hlo; clear hi hlo
  go_enter Tryz.func155, Tryz.ntmps155
  go_wp2
  go_ret2
  exact ⟨ret2_int (unhide HI) (unhide HL), rfl⟩
end Go.Proofs.YtogdekjklbbbiaaGreatDoor

namespace Go.Proofs.YtogdekjklbbbiaaGreatDoor
open Go.ChangeShapes Go.WideShapes Go.ChangeAt Go.RowKit

def unt (c r m : Int) : Int := if c < 0 ∨ r < 0 ∨ m < 0 then 0 else if m ≤ c then 0 else if r = 0 then 0 else (m - c - 1) / r + 1
def untE (c r m : Int) : Int := if c < 0 ∨ r < 0 ∨ m < 0 then 1 else if m ≤ c then 0 else if r = 0 then 3 else 0

theorem unt_up (n r : Int) (hn : 0 < n) (hr : 0 < r) : (n / r * r < n → n / r + 1 = (n - 1) / r + 1) ∧ (¬ n / r * r < n → n / r = (n - 1) / r + 1) ∧ 0 ≤ n / r ∧ n / r ≤ n ∧ 0 ≤ n / r * r ∧ n / r * r ≤ n ∧ 0 ≤ (n - 1) / r ∧ (n - 1) / r ≤ n - 1 := by
  have h1 := Int.mul_ediv_add_emod n r
  have h2 := Int.mul_ediv_add_emod (n - 1) r
  have h3 := Int.emod_nonneg n (show r ≠ 0 by omega)
  have h4 := Int.emod_lt_of_pos n hr
  have h5 := Int.emod_nonneg (n - 1) (show r ≠ 0 by omega)
  have h6 := Int.emod_lt_of_pos (n - 1) hr
  have h7 : 0 ≤ n / r := Int.ediv_nonneg (by omega) (by omega)
  have h8 : n / r ≤ n := Int.ediv_le_self _ (by omega)
  have h9 : 0 ≤ (n - 1) / r := Int.ediv_nonneg (by omega) (by omega)
  have h10 : (n - 1) / r ≤ n - 1 := Int.ediv_le_self _ (by omega)
  have hc : n / r * r = r * (n / r) := Int.mul_comm _ _
  have hp : 0 ≤ n / r * r := Int.mul_nonneg h7 (by omega)
  refine ⟨fun h => ?_, fun h => ?_, h7, h8, hp, by omega, h9, h10⟩
  · have h11 : 0 < n % r := by omega
    have : (n - 1) / r = n / r := by
      have e : n - 1 = (n % r - 1) + r * (n / r) := by omega
      have e1 := Int.add_mul_ediv_left (n % r - 1) (n / r) (show r ≠ 0 by omega)
      have e2 : (n % r - 1) / r = 0 := Int.ediv_eq_zero_of_lt (by omega) (by omega)
      rw [e, e1, e2]; omega
    omega
  · have h11 : n % r = 0 := by omega
    have : (n - 1) / r = n / r - 1 := by
      have e : n - 1 = (r - 1) + r * (n / r - 1) := by rw [Int.mul_sub]; omega
      have e1 := Int.add_mul_ediv_left (r - 1) (n / r - 1) (show r ≠ 0 by omega)
      have e2 : (r - 1) / r = 0 := Int.ediv_eq_zero_of_lt (by omega) (by omega)
      rw [e, e1, e2]; omega
    omega

set_option maxHeartbeats 1000000 in
theorem until_any (c r m : Int) (hc : -9223372036854775808 ≤ c ∧ c < 9223372036854775808) (hr : -9223372036854775808 ≤ r ∧ r < 9223372036854775808) (hm : -9223372036854775808 ≤ m ∧ m < 9223372036854775808) (w : World) :
    Calls Tryz.prog 140 #[.int .i64 c, .int .i64 r, .int .i64 m] w fun e w' => e = .returned (.tuple #[.int .i64 (unt c r m), .int .i64 (untE c r m)]) ∧ w' = w := by
  obtain ⟨hc0, hc1⟩ := hc
  obtain ⟨hr0, hr1⟩ := hr
  obtain ⟨hm0, hm1⟩ := hm
  by_cases h1 : c < 0
  · rw [show unt c r m = 0 from by rw [unt, if_pos (by omega)], show untE c r m = 1 from by rw [untE, if_pos (by omega)]]
    go_enter Tryz.func140, Tryz.ntmps140
    go_wp2
    go_ret2
    exact ⟨rfl, rfl⟩
  by_cases h2 : r < 0
  · rw [show unt c r m = 0 from by rw [unt, if_pos (by omega)], show untE c r m = 1 from by rw [untE, if_pos (by omega)]]
    go_enter Tryz.func140, Tryz.ntmps140
    go_wp2
    go_ret2
    exact ⟨rfl, rfl⟩
  by_cases h3 : m < 0
  · rw [show unt c r m = 0 from by rw [unt, if_pos (by omega)], show untE c r m = 1 from by rw [untE, if_pos (by omega)]]
    go_enter Tryz.func140, Tryz.ntmps140
    go_wp2
    go_ret2
    exact ⟨rfl, rfl⟩
  have hb : ¬ (c < 0 ∨ r < 0 ∨ m < 0) := by omega
  by_cases h4 : m ≤ c
  · rw [show unt c r m = 0 from by rw [unt, if_neg hb, if_pos h4], show untE c r m = 0 from by rw [untE, if_neg hb, if_pos h4]]
    clear hb
    go_enter Tryz.func140, Tryz.ntmps140
    go_wp2
    go_ret2
    exact ⟨rfl, rfl⟩
  by_cases h5 : r = 0
  · rw [show unt c r m = 0 from by rw [unt, if_neg hb, if_neg h4, if_pos h5], show untE c r m = 3 from by rw [untE, if_neg hb, if_neg h4, if_pos h5]]
    clear hb
    have h6 : (r == 0) = true := by simpa using h5
    clear h5
    go_enter Tryz.func140, Tryz.ntmps140
    go_wp2
    go_ret2
    exact ⟨rfl, rfl⟩
  rw [show unt c r m = (m - c - 1) / r + 1 from by rw [unt, if_neg hb, if_neg h4, if_neg h5], show untE c r m = 0 from by rw [untE, if_neg hb, if_neg h4, if_neg h5]]
  clear hb
  have h6 : (r == 0) = false := by simpa using h5
  obtain ⟨_, _, u3, u4, u5, u6, u7, u8⟩ := unt_up (m - c) r (by omega) (by omega)
  have h7 : 0 < r := by omega
  have h8 : 0 ≤ c := by omega
  have h9 : c < m := by omega
  clear h5 h1 h2 h3 h4
  go_enter Tryz.func140, Tryz.ntmps140
  go_wp2
  go_ret2
  exact ⟨rfl, rfl⟩
end Go.Proofs.YtogdekjklbbbiaaGreatDoor

namespace Go.Proofs.YtogdekjklbbbiaaGreatDoor
open Go.ChangeShapes Go.WideShapes Go.ChangeAt Go.RowKit
theorem bel_drewN {B : Nat} {a w : World} (h : Below B a w) (n : Nat) : Below B a (w.drewN n) := ⟨h.os, h.tape, h.output, h.size, h.block⟩
theorem bel_trans {a b c : World} (h : Below a.heap.size a b) (k : Below b.heap.size b c) : Below a.heap.size a c := h.trans (k.mono h.size)
end Go.Proofs.YtogdekjklbbbiaaGreatDoor

namespace Go.Proofs.YtogdekjklbbbiaaGreatDoor
open Go.ChangeShapes Go.WideShapes Go.ChangeAt Go.RowKit

def acc (c r m t : Int) : Int := if c < 0 ∨ r < 0 ∨ m < 0 ∨ t < 0 ∨ m < c then 0 else if m < c + r * t then m else c + r * t
def accE (c r m t : Int) : Int := if c < 0 ∨ r < 0 ∨ m < 0 ∨ t < 0 ∨ m < c then 1 else 0

set_option maxHeartbeats 1000000 in
theorem accrue_any (c r m t : Int) (hc : -9223372036854775808 ≤ c ∧ c < 9223372036854775808) (hr : -9223372036854775808 ≤ r ∧ r < 9223372036854775808) (hm : -9223372036854775808 ≤ m ∧ m < 9223372036854775808) (ht : -9223372036854775808 ≤ t ∧ t < 9223372036854775808) (w : World) :
    Calls Tryz.prog 138 #[.int .i64 c, .int .i64 r, .int .i64 m, .int .i64 t] w fun e w' => e = .returned (.tuple #[.int .i64 (acc c r m t), .int .i64 (accE c r m t)]) ∧ w' = w := by
  obtain ⟨hc0, hc1⟩ := hc
  obtain ⟨hr0, hr1⟩ := hr
  obtain ⟨hm0, hm1⟩ := hm
  obtain ⟨ht0, ht1⟩ := ht
  by_cases h1 : c < 0
  · rw [show acc c r m t = 0 from by rw [acc, if_pos (by omega)], show accE c r m t = 1 from by rw [accE, if_pos (by omega)]]
    go_enter Tryz.func138, Tryz.ntmps138
    go_wp2
    go_ret2
    exact ⟨rfl, rfl⟩
  by_cases h2 : r < 0
  · rw [show acc c r m t = 0 from by rw [acc, if_pos (by omega)], show accE c r m t = 1 from by rw [accE, if_pos (by omega)]]
    go_enter Tryz.func138, Tryz.ntmps138
    go_wp2
    go_ret2
    exact ⟨rfl, rfl⟩
  by_cases h3 : m < 0
  · rw [show acc c r m t = 0 from by rw [acc, if_pos (by omega)], show accE c r m t = 1 from by rw [accE, if_pos (by omega)]]
    go_enter Tryz.func138, Tryz.ntmps138
    go_wp2
    go_ret2
    exact ⟨rfl, rfl⟩
  by_cases h4 : t < 0
  · rw [show acc c r m t = 0 from by rw [acc, if_pos (by omega)], show accE c r m t = 1 from by rw [accE, if_pos (by omega)]]
    go_enter Tryz.func138, Tryz.ntmps138
    go_wp2
    go_ret2
    exact ⟨rfl, rfl⟩
  by_cases h5 : m < c
  · rw [show acc c r m t = 0 from by rw [acc, if_pos (by omega)], show accE c r m t = 1 from by rw [accE, if_pos (by omega)]]
    go_enter Tryz.func138, Tryz.ntmps138
    go_wp2
    go_ret2
    exact ⟨rfl, rfl⟩
  have hb : ¬ (c < 0 ∨ r < 0 ∨ m < 0 ∨ t < 0 ∨ m < c) := by omega
  rw [show acc c r m t = if m < c + r * t then m else c + r * t from by rw [acc, if_neg hb], show accE c r m t = 0 from by rw [accE, if_neg hb]]
  clear hb
  have hp : 0 ≤ r * t := Int.mul_nonneg (by omega) (by omega)
  by_cases h6 : 18446744073709551616 ≤ r * t
  · rw [if_pos (show m < c + r * t by omega)]
    go_enter Tryz.func138, Tryz.ntmps138
    go_wp2_with fail
    refine (mul64_any r t (by omega) (by omega) (by omega) (by omega) _).mono ?_
    rintro e w' ⟨rfl, rfl⟩
    have h7 : 0 < r * t / 18446744073709551616 := by omega
    have h8 : r * t / 18446744073709551616 < 18446744073709551616 := by
      have := (prodb (x := r) (y := t) 9223372036854775807 9223372036854775807 (by omega) (by omega) (by omega) (by omega)).2
      omega
    go_wp2
    go_ret2
    exact ⟨rfl, rfl⟩
  have e1 : r * t / 18446744073709551616 = 0 := by omega
  have e2 : r * t % 18446744073709551616 = r * t := by omega
  have E1 := hide e1; have E2 := hide e2; clear e1 e2
  by_cases h7 : m < c + r * t
  · rw [if_pos h7]
    have h8 : m - c < r * t := by omega
    go_enter Tryz.func138, Tryz.ntmps138
    go_wp2_with fail
    refine (mul64_any r t (by omega) (by omega) (by omega) (by omega) _).mono ?_
    rintro e w' ⟨rfl, rfl⟩
    rw [unhide E1, unhide E2]
    go_wp2
    go_ret2
    exact ⟨rfl, rfl⟩
  · rw [if_neg h7]
    have h8 : r * t ≤ m - c := by omega
    go_enter Tryz.func138, Tryz.ntmps138
    go_wp2_with fail
    refine (mul64_any r t (by omega) (by omega) (by omega) (by omega) _).mono ?_
    rintro e w' ⟨rfl, rfl⟩
    rw [unhide E1, unhide E2]
    go_wp2
    go_ret2
    exact ⟨rfl, rfl⟩
end Go.Proofs.YtogdekjklbbbiaaGreatDoor
