import Derived.Test.YtogdekjklbbbiaaGreatDoorZ42
import Derived.Deep.RegionLaw
import Derived.Deep.DrawnRows
import Derived.Laws.ResultCell
import Derived.Laws.Rows
set_option maxRecDepth 100000
namespace Go.Proofs.YtogdekjklbbbiaaGreatDoor
open Go.ChangeShapes Go.WideShapes Go.ChangeAt Go.RowKit
set_option linter.unusedSimpArgs false
set_option linter.unusedVariables false
attribute [local go_sem ↓] Go.wp_at_zero Go.wp_at_succ

def batO (n t : Int) (v : Value) : Obj := .cells #[.int .i64 n, .int .i64 t, v] 200
theorem cells3b {W : World} {z : Nat} {v0 v1 v2 : Value} {t : TypeId} (h : W.heap[z]? = some (.cells #[v0, v1, v2] t)) :
    W.cell? ⟨z, 0, none⟩ = some v0 ∧ W.cell? ⟨z, 1, none⟩ = some v1 ∧ W.cell? ⟨z, 2, none⟩ = some v2 := by
  refine ⟨?_, ?_, ?_⟩ <;> simp [World.cell?, h]
/-- What the flow has while its batch is taken out. -/
structure RRl (w : World) (b x g : Nat) (num cr ad k at' cap sent : Nat) (pk : List (Int × Nat)) : Prop where
  c0 : w.cell? ⟨x, 0, none⟩ = some (.int .i64 (num : Int))
  c4 : w.cell? ⟨x, 4, none⟩ = some (.slice (some ⟨g, 0, none⟩) pk.length cap)
  c5 : w.cell? ⟨x, 5, none⟩ = some (.int .i64 (ad : Int))
  c6 : w.cell? ⟨x, 6, none⟩ = some (.int .i64 (cr : Int))
  c8 : w.cell? ⟨x, 8, none⟩ = some (.int .i64 (k : Int))
  c9 : w.cell? ⟨x, 9, none⟩ = some (.int .i64 (at' : Int))
  d9 : w.cell? ⟨b, 9, none⟩ = some (.int .i64 (sent : Int))
  fx : ∀ o, w.frozen? ⟨x, o, none⟩ = false
  fb : ∀ o, w.frozen? ⟨b, o, none⟩ = false
  row : w.ownsRow 0 196 2 (.slice (some ⟨g, 0, none⟩) pk.length cap) pk.length (pkC pk)
  xb : x ≠ b
  gx : g ≠ x
  gb : g ≠ b
/-- The flow behind it. -/
structure RSl (w1 w2 : World) (b x : Nat) (num cr ad k at' sent : Nat) (pk : List (Int × Nat)) (zb : Nat) (pv q : Value) : Prop where
  fr : Fr w1 w2 (fun a => a = x ∨ a = b)
  cx : ∀ o, o ≠ 4 → o ≠ 5 → o ≠ 6 → w2.cell? ⟨x, o, none⟩ = w1.cell? ⟨x, o, none⟩
  c4 : w2.cell? ⟨x, 4, none⟩ = some q
  c5 : w2.cell? ⟨x, 5, none⟩ = some (.int .i64 ((ad - k : Nat) : Int))
  c6 : w2.cell? ⟨x, 6, none⟩ = some (.int .i64 ((cr - Pace.bytes (pk.take k) * 1000000000 : Nat) : Int))
  cb : ∀ o, o ≠ 9 → w2.cell? ⟨b, o, none⟩ = w1.cell? ⟨b, o, none⟩
  d9 : w2.cell? ⟨b, 9, none⟩ = some (.int .i64 ((sent + k : Nat) : Int))
  fx : ∀ o, w2.frozen? ⟨x, o, none⟩ = false
  fb : ∀ o, w2.frozen? ⟨b, o, none⟩ = false
  bt : w2.heap[zb]? = some (batO (num : Int) (at' : Int) pv)
  zn : w1.heap.size ≤ zb
  rp : w2.ownsRow 0 196 2 pv k (pkC (pk.take k))
  rq : w2.ownsRow 0 196 2 q (pk.length - k) (pkC (pk.drop k))
  pn : ∀ g, pv.ownBlock = some g → w1.heap.size ≤ g ∧ g ≠ zb
  qn : ∀ g, q.ownBlock = some g → w1.heap.size ≤ g ∧ g ≠ zb ∧ pv.ownBlock ≠ some g
theorem pkC_snoc (l : List (Int × Nat)) (p : Int × Nat) : pkC (l ++ [p]) = pkC l ++ [.int .i64 p.1, .int .i64 (p.2 : Int)] := by simp [pkC]
/-- The batch while its packets are put in. -/
structure LP1 (W1 wr : World) (zb : Nat) (n t : Int) (pk : List (Int × Nat)) (i : Nat) (pv : Value) : Prop where
  fr : Fr W1 wr (fun a => a = zb)
  bt : wr.heap[zb]? = some (batO n t pv)
  row : wr.ownsRow 0 196 2 pv i (pkC (pk.take i))
  pn : ∀ g, pv.ownBlock = some g → W1.heap.size ≤ g
theorem Gr.undrewR {w w' : World} {v v' : Value} (h : Gr w.drew w' v v') : Gr w w' v v' := by
  rcases h with ⟨q1, q2⟩ | ⟨q1, q2⟩
  · exact .inl ⟨q1, ⟨q2.os, q2.tape, q2.output, q2.size, q2.block⟩⟩
  · exact .inr ⟨q1, ⟨q2.os, q2.tape, q2.output, q2.size, q2.block⟩⟩
theorem LP1.step {W1 wr w3 : World} {zb : Nat} {n t : Int} {pk : List (Int × Nat)} {i : Nat} {pv v2 : Value} {o : Obj} {p : Int × Nat} (h : LP1 W1 wr zb n t pk i pv) (hz : zb < W1.heap.size) (hp : pk[i]? = some p) (hown : w3.ownsRow 0 196 2 v2 (i + 1) (pkC (pk.take i) ++ [.int .i64 p.1, .int .i64 (p.2 : Int)])) (hg : Gr (wr.alloc o) w3 pv v2) :
    w3.cell? ⟨zb, 2, none⟩ = some pv ∧ w3.frozen? ⟨zb, 2, none⟩ = false ∧ LP1 W1 (w3.setCell ⟨zb, 2, none⟩ v2) zb n t pk (i + 1) v2 := by
  have hsz := h.fr.size
  have hgs := hg.fr.size
  have hsa : (wr.alloc o).heap.size = wr.heap.size + 1 := by simp
  have hpz : pv.ownBlock ≠ some zb := fun e => by have := h.pn zb e; omega
  have hb3 : w3.heap[zb]? = some (batO n t pv) := by
    rw [hg.fr.blk zb (by omega) hpz, Below.heap_alloc _ _ _ (by omega)]; exact h.bt
  have hnew : ∀ g, v2.ownBlock = some g → W1.heap.size ≤ g := fun g e => by
    rcases hg.new e with q | q
    · exact h.pn g q
    · omega
  refine ⟨(cells3b hb3).2.2, by simp [World.frozen?, hb3, batO], ⟨?_, ?_, ?_, hnew⟩⟩
  · have h1 : Fr W1 w3 (fun a => a = zb) := ⟨hg.fr.os.trans h.fr.os, hg.fr.tape.trans h.fr.tape, hg.fr.output.trans h.fr.output, by omega, fun k hk hn => by
      rw [hg.fr.blk k (by omega) (fun e => by have := h.pn k e; omega), Below.heap_alloc _ _ _ (by omega)]
      exact h.fr.blk k hk hn⟩
    exact h1.trans (ch1 w3 zb 2 v2) fun k _ q => q
  · have := set1 hb3 2 v2
    rw [this]
    rfl
  · have e : pk.take (i + 1) = pk.take i ++ [p] := by rw [List.take_add_one, hp]; rfl
    rw [e, pkC_snoc]
    refine row_kept0 hown fun g hgg => Below.heap_setCell _ _ _ _ fun e => ?_
    have e' : g = zb := e
    have := hnew g hgg
    omega
/-- What stays, while it is put together. -/
structure LP2 (W2 wr : World) (l : List (Int × Nat)) (j : Nat) (q : Value) : Prop where
  fr : Fr W2 wr (fun _ => False)
  row : wr.ownsRow 0 196 2 q j (pkC (l.take j))
  qn : ∀ g, q.ownBlock = some g → W2.heap.size ≤ g
theorem LP2.step {W2 wr w3 : World} {l : List (Int × Nat)} {j : Nat} {q v2 : Value} {o : Obj} {p : Int × Nat} (h : LP2 W2 wr l j q) (hp : l[j]? = some p) (hown : w3.ownsRow 0 196 2 v2 (j + 1) (pkC (l.take j) ++ [.int .i64 p.1, .int .i64 (p.2 : Int)])) (hg : Gr (wr.alloc o) w3 q v2) : LP2 W2 w3 l (j + 1) v2 := by
  have hsz := h.fr.size
  have hgs := hg.fr.size
  have hsa : (wr.alloc o).heap.size = wr.heap.size + 1 := by simp
  refine ⟨⟨hg.fr.os.trans h.fr.os, hg.fr.tape.trans h.fr.tape, hg.fr.output.trans h.fr.output, by omega, fun k hk hn => ?_⟩, ?_, fun g e => ?_⟩
  · rw [hg.fr.blk k (by omega) (fun e => by have := h.qn k e; omega), Below.heap_alloc _ _ _ (by omega)]
    exact h.fr.blk k hk hn
  · have e : l.take (j + 1) = l.take j ++ [p] := by rw [List.take_add_one, hp]; rfl
    rw [e, pkC_snoc]
    exact hown
  · rcases hg.new e with q | q
    · exact h.qn g q
    · omega
theorem results_rel (tmps : Array Value) (w : World) (z : Nat) (v0 v1 v2 : Value) (hp : tmps.getD 4 undef = .pointer (some ⟨z, 0, none⟩)) (hg : w.heap[z]? = some (.cells #[v0, v1, v2] 200)) : (results Tryz.f87 tmps).run Tryz.prog w = .ok (.agg #[v0, v1, v2]) w := by
  have h1 : (results Tryz.f87 tmps).run Tryz.prog w = ((asAddr (tmps.getD 4 undef)).run Tryz.prog w).andThen fun a w1 => (loadVar 200 a).run Tryz.prog w1 := by
    have hr : Tryz.f87.results = #[.cell 4 200] := rfl
    simp only [results, hr]
    simp [Sem.run_bind, Result.andThen]
    try rfl
  rw [h1, hp]
  simp only [asAddr, Sem.run_pure, Result.andThen_ok]
  rw [run_loadVar_row w z 200 200 _ _ _ hg Tryz.underlying200 rfl (by kernel_rfl)]
def set3 (W : World) (z : Nat) (v0 v1 v2 : Value) : World := ((W.setCell ⟨z, 0, none⟩ v0).setCell ⟨z, 1, none⟩ v1).setCell ⟨z, 2, none⟩ v2
theorem set3_ch (W : World) (z : Nat) (v0 v1 v2 : Value) : Ch W (set3 W z v0 v1 v2) (fun a o => a = z) := by
  have h0 : Ch W W (fun a o => a = z) := Ch.refl W _
  have h1 := h0.setCell (b := z) (o := 0) rfl v0
  have h2 := h1.setCell (b := z) (o := 1) rfl v1
  exact h2.setCell (b := z) (o := 2) rfl v2
theorem set3_heap {W : World} {z : Nat} {u0 u1 u2 : Value} {t : TypeId} (h : W.heap[z]? = some (.cells #[u0, u1, u2] t)) (v0 v1 v2 : Value) : (set3 W z v0 v1 v2).heap[z]? = some (.cells #[v0, v1, v2] t) := by
  have h0 := set1 h 0 v0
  have h1 := set1 h0 1 v1
  exact set1 h1 2 v2
theorem rsl_mk {w1 wa W1 wo wr wb W : World} {b x g num cr ad k at' cap sent bs zb j : Nat} {pk : List (Int × Nat)} {pv q : Value} (hRR : RRl w1 b x g num cr ad k at' cap sent pk) (hCa : Ch w1 wa (fun a o => a = x ∧ o = 6)) (h6 : wa.cell? ⟨x, 6, none⟩ = some (.int .i64 ((cr : Int) - (bs : Int) * 1000000000))) (hbs : Pace.bytes (pk.take k) = bs) (hle : bs * 1000000000 ≤ cr) (hka : k ≤ ad)
    (hFW : Fr wa W1 (fun _ => False)) (hS1 : W1.heap.size = zb + 1) (hzb : wa.heap.size = zb) (hL1 : LP1 W1 wo zb (num : Int) (at' : Int) pk k pv) (hL2 : LP2 wo wr (pk.drop k) j q) (hj : k + j = pk.length) (hC4 : Ch wr wb (fun a o => a = x ∧ o = 4)) (h4 : wb.cell? ⟨x, 4, none⟩ = some q)
    (hCd : Ch wb W (fun a o => (a = x ∧ o = 5) ∨ (a = b ∧ o = 9))) (h5 : W.cell? ⟨x, 5, none⟩ = some (.int .i64 ((ad : Int) - (k : Int)))) (h9 : W.cell? ⟨b, 9, none⟩ = some (.int .i64 ((sent : Int) + (k : Int)))) : RSl w1 W b x num cr ad k at' sent pk zb pv q := by
  have hs1 := hCa.size
  have hs2 := hL1.fr.size
  have hs3 := hL2.fr.size
  have hs4 := hC4.size
  have hs5 := hCd.size
  have hxl : x < zb := by rw [← hzb, hs1]; exact World.block_lt_of_cell? _ _ hRR.c0
  have hbl : b < zb := by rw [← hzb, hs1]; exact World.block_lt_of_cell? _ _ hRR.d9
  have hxb := hRR.xb
  have hold : ∀ y, y < zb → wr.heap[y]? = wa.heap[y]? := fun y hy => (hL2.fr.blk y (by omega) (fun q => q)).trans ((hL1.fr.blk y (by omega) (by omega)).trans (hFW.blk y (by omega) fun q => q))
  have hnew : ∀ y, zb ≤ y → y < wr.heap.size → W.heap[y]? = wr.heap[y]? := fun y hy hy2 => (hCd.blk y fun o q => by rcases q with q | q <;> omega).trans (hC4.blk y fun o q => by omega)
  have hcx : ∀ o, wr.cell? ⟨x, o, none⟩ = wa.cell? ⟨x, o, none⟩ := fun o => World.cell?_of_block (w := wa) (a := ⟨x, o, none⟩) (hold x hxl)
  have hcb : ∀ o, wr.cell? ⟨b, o, none⟩ = wa.cell? ⟨b, o, none⟩ := fun o => World.cell?_of_block (w := wa) (a := ⟨b, o, none⟩) (hold b hbl)
  refine ⟨?_, fun o o1 o2 o3 => ?_, ?_, ?_, ?_, fun o o1 => ?_, ?_, fun o => ?_, fun o => ?_, ?_, by omega, ?_, ?_, fun g' hg => ?_, fun g' hg => ?_⟩
  · refine ⟨?_, ?_, ?_, by omega, fun y hy hn => ?_⟩
    · rw [hCd.os, hC4.os, hL2.fr.os, hL1.fr.os, hFW.os, hCa.os]
    · rw [hCd.tape, hC4.tape, hL2.fr.tape, hL1.fr.tape, hFW.tape, hCa.tape]
    · rw [hCd.output, hC4.output, hL2.fr.output, hL1.fr.output, hFW.output, hCa.output]
    · have n1 : y ≠ x := fun e => hn (.inl e)
      have n2 : y ≠ b := fun e => hn (.inr e)
      rw [hCd.blk y fun o q => by rcases q with q | q; exact n1 q.1; exact n2 q.1, hC4.blk y fun o q => n1 q.1, hold y (by omega), hCa.blk y fun o q => n1 q.1]
  · rw [hCd.cell x o (fun q => by rcases q with q | q; exact o2 q.2; exact hxb q.1), hC4.cell x o (by omega), hcx, hCa.cell x o (by omega)]
  · rw [hCd.cell x 4 (fun q => by rcases q with q | q; omega; exact hxb q.1)]; exact h4
  · rw [show ((ad - k : Nat) : Int) = (ad : Int) - (k : Int) by omega]; exact h5
  · rw [hbs, show ((cr - bs * 1000000000 : Nat) : Int) = (cr : Int) - (bs : Int) * 1000000000 by omega, hCd.cell x 6 (fun q => by rcases q with q | q; omega; exact hxb q.1), hC4.cell x 6 (by omega), hcx]; exact h6
  · rw [hCd.cell b o (fun q => by rcases q with q | q; exact hxb q.1.symm; exact o1 q.2), hC4.cell b o (fun q => hxb q.1.symm), hcb, hCa.cell b o (fun q => hxb q.1.symm)]
  · rw [show ((sent + k : Nat) : Int) = (sent : Int) + (k : Int) by omega]; exact h9
  · rw [hCd.fz, hC4.fz, frozen_of (hold x hxl), hCa.fz]; exact hRR.fx o
  · rw [hCd.fz, hC4.fz, frozen_of (hold b hbl), hCa.fz]; exact hRR.fb o
  · rw [hnew zb (Nat.le_refl _) (by omega), hL2.fr.blk zb (by omega) fun q => q]; exact hL1.bt
  · refine row_kept0 hL1.row fun g' hg => ?_
    have h1 := hL1.pn g' hg
    have h2 := (hL1.row.lt g' hg).2
    rw [hnew g' (by omega) (by omega), hL2.fr.blk g' h2 fun q => q]
  · have h := hL2.row
    rw [List.take_of_length_le (by rw [List.length_drop]; omega)] at h
    rw [show pk.length - k = j by omega]
    refine row_kept0 h fun g' hg => ?_
    have h1 := hL2.qn g' hg
    have h2 := (h.lt g' hg).2
    exact hnew g' (by omega) h2
  · have h1 := hL1.pn g' hg
    omega
  · have h1 := hL2.qn g' hg
    refine ⟨by omega, by omega, fun e => ?_⟩
    have := (hL1.row.lt g' e).2
    omega
set_option maxHeartbeats 6000000 in
theorem rrelease_walk (b x g num cr ad k at' cap sent : Nat) (pk : List (Int × Nat)) (w : World) (R1 : World → Prop) (R2 : Nat → Value → World → Prop) (Post : Value → World → Prop) (hk0 : 0 < k) (hka : k ≤ ad) (hkp : ad ≤ pk.length) (hp8 : pk.length ≤ 8) (hl : ∀ p ∈ pk, p.2 ≤ 1500) (hcr : cr ≤ 1000000000000000) (hby : Pace.bytes (pk.take k) * 1000000000 ≤ cr) (hsent : sent < 1000000000000000000)
    (hA : Calls Tryz.prog 123 #[.pointer (some ⟨b, 0, none⟩), .pointer (some ⟨x, 0, none⟩)] (w.alloc (batO 0 0 (.slice none 0 0))) fun e w' => e = .returned (.tuple #[]) ∧ R1 w')
    (hR : ∀ w1, R1 w1 → RRl w1 b x g num cr ad k at' cap sent pk ∧ w1.heap[w.heap.size]? = some (batO 0 0 (.slice none 0 0)) ∧ w.heap.size ≠ x ∧ w.heap.size ≠ b ∧ w.heap.size ≠ g)
    (hB : ∀ w1 w2 zb pv q, R1 w1 → RSl w1 w2 b x num cr ad k at' sent pk zb pv q → Calls Tryz.prog 124 #[.pointer (some ⟨b, 0, none⟩), .pointer (some ⟨x, 0, none⟩)] w2 fun e w3 => e = .returned (.tuple #[]) ∧ w3.heap[zb]? = w2.heap[zb]? ∧ w3.heap[w.heap.size]? = w2.heap[w.heap.size]? ∧ R2 zb pv w3)
    (hP : ∀ zb pv w3 w4, R2 zb pv w3 → Ch w3 w4 (fun a _ => a = w.heap.size) → Post (.agg #[.int .i64 (num : Int), .int .i64 (at' : Int), pv]) w4) :
    Calls Tryz.prog 87 #[.pointer (some ⟨b, 0, none⟩), .pointer (some ⟨x, 0, none⟩)] w fun e w' => ∃ v, e = .returned v ∧ Post v w' := by
  obtain ⟨i1, hj1, hy0, hy1, hy2⟩ := info_parts info196
  have HA := hide hA; have HR := hide hR; have HB := hide hB; have HP := hide hP; have HL := hide hl
  clear hA hR hB hP hl
  simp only [batO] at HA
  go_enter Tryz.func87, Tryz.ntmps87
  go_wp2_with fail
  refine (unhide HA).mono ?_
  rintro e w1 ⟨rfl, hR1⟩
  obtain ⟨hRR, hzr, hzx, hzb, hzg⟩ := unhide HR w1 hR1
  have HR1 := hide hR1; have HRR := hide hRR
  have HBy := hide (rbytes_walk x k cap (some ⟨g, 0, none⟩) pk w1 hRR.c8 hRR.c4 (by omega) hp8 (unhide HL) (fun i p hi => ⟨g, rfl, row_get hRR.row (pkC_get pk i p hi).2⟩))
  clear hR1
  go_wp2_with fail
  refine (unhide HBy).mono ?_
  rintro e w2 ⟨rfl, hw2⟩
  rw [hw2]
  clear hw2
  have c6 := hRR.c6
  have y6 := hRR.fx 6
  have hbs : Pace.bytes (pk.take k) ≤ k * 1500 := bytes_small (unhide HL) k
  obtain ⟨bs, hbse⟩ : ∃ bs, Pace.bytes (pk.take k) = bs := ⟨_, rfl⟩
  rw [hbse] at hby hbs ⊢
  have HBse := hide hbse
  have hw1 : IntKind.i64.wrap ((bs : Int) * 1000000000) = (bs : Int) * 1000000000 := wrapI (by omega) (by omega)
  have hw2 : IntKind.i64.wrap ((cr : Int) - (bs : Int) * 1000000000) = (cr : Int) - (bs : Int) * 1000000000 := wrapI (by omega) (by omega)
  clear hbse
  go_upto_region 4 with fail
  have hcha : Ch w1 (w1.setCell ⟨x, 6, none⟩ (.int .i64 ((cr : Int) - (bs : Int) * 1000000000))) (fun a o => a = x ∧ o = 6) := (Ch.refl w1 _).setCell ⟨rfl, rfl⟩ _
  have a6 : (w1.setCell ⟨x, 6, none⟩ (.int .i64 ((cr : Int) - (bs : Int) * 1000000000))).cell? ⟨x, 6, none⟩ = some (.int .i64 ((cr : Int) - (bs : Int) * 1000000000)) := World.cell?_setCell_same' _ _ _ (by rw [c6]; rfl)
  generalize w1.setCell ⟨x, 6, none⟩ (.int .i64 ((cr : Int) - (bs : Int) * 1000000000)) = wa at *
  have HCa := hide hcha; have HA6 := hide a6
  have a0 := (hcha.cell x 0 (by omega)).trans hRR.c0
  have a9 := (hcha.cell x 9 (by omega)).trans hRR.c9
  clear hcha a6 hRR c6 y6 hw1 hw2 HBy HA
  go_region_held3 (fun W => W.cell? ⟨x, 0, none⟩ = some (.int .i64 (num : Int)) ∧ W.cell? ⟨x, 9, none⟩ = some (.int .i64 (at' : Int))) (first | exact ⟨a0, a9⟩ | exact ⟨old_cell a0 _, old_cell a9 _⟩) (fail)
  have hxl : x < wa.heap.size := World.block_lt_of_cell? _ _ a0
  have hsa : wa.heap.size = w1.heap.size := (unhide HCa).size
  have hgl : g < wa.heap.size := by rw [hsa]; exact ((unhide HRR).row.lt g rfl).2
  have hbl : b < wa.heap.size := by rw [hsa]; exact World.block_lt_of_cell? _ _ (unhide HRR).d9
  have HSA := hide hsa
  clear hsa
  have HL0 : Hid (LP1 (wa.alloc (batO (num : Int) (at' : Int) (.slice none 0 0))).drew (wa.alloc (batO (num : Int) (at' : Int) (.slice none 0 0))).drew wa.heap.size (num : Int) (at' : Int) pk 0 (.slice none 0 0)) := ⟨Fr.refl _ _, heap_alloc_new wa _, World.ownsRow_nil _ _ _ _, fun g hg => by cases hg⟩
  simp only [batO] at HL0
  obtain ⟨zb, hzbe⟩ : ∃ zb, wa.heap.size = zb := ⟨_, rfl⟩
  have HW1 : Hid (∀ k, k < wa.heap.size → (wa.alloc (.cells #[.int .i64 (num : Int), .int .i64 (at' : Int), .slice none 0 0] 200)).drew.heap[k]? = wa.heap[k]?) := fun k hk => Below.heap_alloc wa _ _ hk
  have HFW : Hid (Fr wa (wa.alloc (.cells #[.int .i64 (num : Int), .int .i64 (at' : Int), .slice none 0 0] 200)).drew (fun _ => False)) := ((Fr.refl _ _).alloc _).drew
  have HS1 : Hid ((wa.alloc (.cells #[.int .i64 (num : Int), .int .i64 (at' : Int), .slice none 0 0] 200)).drew.heap.size = wa.heap.size + 1) := by show (wa.alloc _).heap.size = _; simp
  go_wp2_with fail
  generalize hW1 : (wa.alloc (.cells #[.int .i64 (num : Int), .int .i64 (at' : Int), .slice none 0 0] 200)).drew = W1 at *
  rw [hzbe] at hxl hgl hbl HSA HL0 HW1 HS1 ⊢
  have HZB := hide hzbe
  clear hzbe
  go_loopg [7] k (fun gk vi wr => ∃ (i : Nat) (pv : Value), vi = .int .i64 (i : Int) ∧ gk = k - i ∧ i ≤ k ∧ LP1 W1 wr zb (num : Int) (at' : Int) pk i pv)
  case atStart => exact ⟨0, _, rfl, rfl, Nat.zero_le _, unhide HL0⟩
  case round =>
    obtain ⟨i, pv, hu, hgk, hik, hLP⟩ := hrel
    rw [hu]
    clear hu HL0 a0 a9
    have HG := hide hgk; have HLP := hide hLP
    have hblk : ∀ j, j < zb → wr.heap[j]? = wa.heap[j]? := fun j hj => (hLP.fr.blk j (by rw [unhide HS1]; omega) (by omega)).trans (unhide HW1 j hj)
    have HBk := hide hblk
    have r8 : wr.cell? ⟨x, 8, none⟩ = some (.int .i64 (k : Int)) := (World.cell?_of_block (w := wa) (a := ⟨x, 8, none⟩) (hblk x hxl)).trans (((unhide HCa).cell x 8 (by omega)).trans (unhide HRR).c8)
    have r4 : wr.cell? ⟨x, 4, none⟩ = some (.slice (some ⟨g, 0, none⟩) pk.length cap) := (World.cell?_of_block (w := wa) (a := ⟨x, 4, none⟩) (hblk x hxl)).trans (((unhide HCa).cell x 4 (by omega)).trans (unhide HRR).c4)
    by_cases hi : i < k
    · have hpi : pk[i]? = some pk[i] := List.getElem?_eq_getElem (by omega)
      obtain ⟨g0, g1⟩ := pkC_get pk i _ hpi
      have hgg : ∀ o, wr.cell? ⟨g, o, none⟩ = w1.cell? ⟨g, o, none⟩ := fun o => (World.cell?_of_block (w := wa) (a := ⟨g, o, none⟩) (hblk g hgl)).trans ((unhide HCa).cell g o (fun q => (unhide HRR).gx q.1))
      have e0 := (hgg (i * 2)).trans (row_get (unhide HRR).row g0)
      have e1 := (hgg (i * 2 + 1)).trans (row_get (unhide HRR).row g1)
      have HPi := hide hpi
      generalize pk[i] = p at e0 e1 HPi
      obtain ⟨tg, le⟩ := p
      simp only at e0 e1
      obtain ⟨ap, cp, hpv⟩ := row_len hLP.row
      have hb2 := (cells3b hLP.bt).2.2
      have hHLP := hLP.row
      rw [hpv] at hb2 hHLP
      have HPV := hide hpv
      have HB1 : Hid ((wr.alloc (.cells #[.int .i64 tg, .int .i64 (le : Int)] 196)).drew.ownsRow 0 196 2 (.slice ap i cp) i (pkC (pk.take i))) := World.ownsRow.alloc (w := wr) hHLP _
      have HN1 : Hid (∀ j u, [Value.int .i64 tg, .int .i64 (le : Int)][j]? = some u → (wr.alloc (.cells #[.int .i64 tg, .int .i64 (le : Int)] 196)).drew.cell? ((⟨wr.heap.size, 0, none⟩ : Addr).add j) = some u) := fun j u hu => cells_new (w := wr) (cur := #[.int .i64 tg, .int .i64 (le : Int)]) j u hu
      have ob2 := old_cell hb2 (.cells #[.int .i64 tg, .int .i64 (le : Int)] 196)
      have hii : (i : Int) < (k : Int) := by omega
      have hi0 : (0 : Int) ≤ (i : Int) := by omega
      have hip : (i : Int) < (pk.length : Int) := by omega
      clear hLP hHLP hpv hpi g0 g1 hgg hblk hgk
      go_wp2_with fail
      go_region_law (refine step_append2 rfl (.tmp 43) (.tmp 51) 101 rfl 0 196 i1 (.agg #[.int .i64 0, .int .i64 0]) 2 16 Tryz.underlying101 hj1 hy0 hy1 hy2 rfl (by decide) (.slice ap i cp) i (pkC (pk.take i)) (by simp [Act.eval, Act.put]) (unhide HB1) ⟨wr.heap.size, 0, none⟩ 1 1 [.int .i64 tg, .int .i64 (le : Int)] (by simp [Act.eval, Act.put]) rfl (unhide HN1) (by simp [Value.oneCell']) (by unfold maxLen; omega) (by omega) (Nat.zero_le _) ?_; intro v2 w3 hown3 hgr3; obtain ⟨s1, s2, s3⟩ := (unhide HLP).step (o := .cells #[.int .i64 tg, .int .i64 (le : Int)] 196) (by rw [unhide HS1]; omega) (unhide HPi) hown3 (by rw [unhide HPV]; exact (show Gr (wr.alloc (.cells #[.int .i64 tg, .int .i64 (le : Int)] 196)).drew w3 (.slice ap i cp) v2 from hgr3).undrewR); obtain ⟨g3, cap3, hv3, hg3a, hg3b, hg3c, hcap3, hcm3⟩ := row_shape hown3 (by omega); subst hv3; have HS3 := hide s3; clear hown3 hgr3 s3)
      all_goals
        as_aux_lemma =>
          go_wp2_with fail
          go_roundg (k - (i + 1))
          case measure => rw [unhide HG]; omega
          case rel => exact ⟨i + 1, _, by go_num, rfl, by omega, unhide HS3⟩
    · have hii : ¬ ((i : Int) < (k : Int)) := by omega
      have hik : i = k := by omega
      subst hik
      have HL2 : Hid (LP2 wr wr (pk.drop i) 0 (.slice none 0 0)) := ⟨Fr.refl _ _, World.ownsRow_nil _ _ _ _, fun g hg => by cases hg⟩
      clear hLP hblk hgk HG
      go_wp2_with fail
      go_loopg [8, 9] (pk.length - i) (fun gk vq vi wt => ∃ (j : Nat) (q : Value), vq = q ∧ vi = .int .i64 ((i + j : Nat) : Int) ∧ gk = pk.length - i - j ∧ i + j ≤ pk.length ∧ LP2 wr wt (pk.drop i) j q)
      case atStart => exact ⟨0, _, rfl, rfl, rfl, by omega, unhide HL2⟩
      case round =>
        obtain ⟨j, q, hq, hu, hgk, hjl, hLQ⟩ := hrel
        rw [hq, hu]
        clear hq hu HL2
        have HG := hide hgk; have HLQ := hide hLQ
        have hblk2 : ∀ y, y < zb → wr.heap[y]? = wa.heap[y]? := fun y hy => (hLQ.fr.blk y (Nat.lt_of_lt_of_le (by rw [unhide HS1]; omega) (unhide HLP).fr.size) (fun q => q)).trans (unhide HBk y hy)
        have HBk2 := hide hblk2
        have t4 : wr.cell? ⟨x, 4, none⟩ = some (.slice (some ⟨g, 0, none⟩) pk.length cap) := (World.cell?_of_block (w := wa) (a := ⟨x, 4, none⟩) (hblk2 x hxl)).trans (((unhide HCa).cell x 4 (by omega)).trans (unhide HRR).c4)
        by_cases hj : i + j < pk.length
        · have hpi : pk[i + j]? = some pk[i + j] := List.getElem?_eq_getElem hj
          obtain ⟨g0, g1⟩ := pkC_get pk (i + j) _ hpi
          have hgg : ∀ o, wr.cell? ⟨g, o, none⟩ = w1.cell? ⟨g, o, none⟩ := fun o => (World.cell?_of_block (w := wa) (a := ⟨g, o, none⟩) (hblk2 g hgl)).trans ((unhide HCa).cell g o (fun q => (unhide HRR).gx q.1))
          have e0 := (hgg ((i + j) * 2)).trans (row_get (unhide HRR).row g0)
          have e1 := (hgg ((i + j) * 2 + 1)).trans (row_get (unhide HRR).row g1)
          have HPi : Hid ((pk.drop i)[j]? = some pk[i + j]) := by unfold Hid; rw [List.getElem?_drop]; exact hpi
          generalize pk[i + j] = p at e0 e1 HPi
          obtain ⟨tg, le⟩ := p
          simp only at e0 e1
          obtain ⟨aq, cq, hqv⟩ := row_len hLQ.row
          have hHLQ := hLQ.row
          rw [hqv] at hHLQ ⊢
          have HQV := hide hqv
          have HB1 : Hid ((wr.alloc (.cells #[.int .i64 tg, .int .i64 (le : Int)] 196)).ownsRow 0 196 2 (.slice aq j cq) j (pkC ((pk.drop i).take j))) := World.ownsRow.alloc (w := wr) hHLQ _
          have HN1 : Hid (∀ j u, [Value.int .i64 tg, .int .i64 (le : Int)][j]? = some u → (wr.alloc (.cells #[.int .i64 tg, .int .i64 (le : Int)] 196)).cell? ((⟨wr.heap.size, 0, none⟩ : Addr).add j) = some u) := fun j u hu => cells_new (w := wr) (cur := #[.int .i64 tg, .int .i64 (le : Int)]) j u hu
          have hii : ((i + j : Nat) : Int) < (pk.length : Int) := by omega
          have hii2 : (i : Int) + (j : Int) < (pk.length : Int) := by omega
          have hi0 : (0 : Int) ≤ ((i + j : Nat) : Int) := by omega
          clear hLQ hHLQ hpi g0 g1 hgg hblk2 hgk hqv
          obtain ⟨m, hm⟩ : ∃ m, i + j = m := ⟨_, rfl⟩
          have HM := hide hm
          rw [hm] at e0 e1 hii hi0 hjl ⊢
          clear hm hii2
          go_wp2_with (first
            | (at_builtin; refine wpList_append2 rfl _ _ 101 rfl 0 196 i1 (.agg #[.int .i64 0, .int .i64 0]) 2 16 Tryz.underlying101 hj1 hy0 hy1 hy2 rfl (by decide) (.slice aq j cq) j (pkC ((pk.drop i).take j)) rfl (unhide HB1) ⟨wr.heap.size, 0, none⟩ 1 1 [.int .i64 tg, .int .i64 (le : Int)] rfl rfl (unhide HN1) (by simp [Value.oneCell']) (by unfold maxLen; omega) (by omega) (Nat.zero_le _) ?_; intro v2 w3 hown3 hgr3; have HS3 := hide ((unhide HLQ).step (o := .cells #[.int .i64 tg, .int .i64 (le : Int)] 196) (unhide HPi) hown3 (by rw [unhide HQV]; exact hgr3)); clear hown3 hgr3))
          go_roundg (pk.length - i - (j + 1))
          case measure => rw [unhide HG]; have := unhide HM; omega
          case rel =>
            refine ⟨j + 1, _, rfl, ?_, rfl, by have := unhide HM; omega, unhide HS3⟩
            have h := unhide HM
            rw [← h]
            go_num
        · have hii : ¬ (((i + j : Nat) : Int) < (pk.length : Int)) := by omega
          have hjp : i + j = pk.length := by omega
          have t5 : wr.cell? ⟨x, 5, none⟩ = some (.int .i64 (ad : Int)) := (World.cell?_of_block (w := wa) (a := ⟨x, 5, none⟩) (hblk2 x hxl)).trans (((unhide HCa).cell x 5 (by omega)).trans (unhide HRR).c5)
          have t8 : wr.cell? ⟨x, 8, none⟩ = some (.int .i64 (i : Int)) := (World.cell?_of_block (w := wa) (a := ⟨x, 8, none⟩) (hblk2 x hxl)).trans (((unhide HCa).cell x 8 (by omega)).trans (unhide HRR).c8)
          have t9 : wr.cell? ⟨b, 9, none⟩ = some (.int .i64 (sent : Int)) := (World.cell?_of_block (w := wa) (a := ⟨b, 9, none⟩) (hblk2 b hbl)).trans (((unhide HCa).cell b 9 (fun q => (unhide HRR).xb q.1.symm)).trans (unhide HRR).d9)
          have hfx : ∀ o, wr.frozen? ⟨x, o, none⟩ = false := fun o => (frozen_of (hblk2 x hxl) o).trans (((unhide HCa).fz _).trans ((unhide HRR).fx o))
          have hfb : ∀ o, wr.frozen? ⟨b, o, none⟩ = false := fun o => (frozen_of (hblk2 b hbl) o).trans (((unhide HCa).fz _).trans ((unhide HRR).fb o))
          have y4 := hfx 4
          have hxb := (unhide HRR).xb
          have hbx : b ≠ x := fun e => hxb e.symm
          have hch4 : Ch wr (wr.setCell ⟨x, 4, none⟩ q) (fun a o => a = x ∧ o = 4) := (Ch.refl wr _).setCell ⟨rfl, rfl⟩ _
          have u4 : (wr.setCell ⟨x, 4, none⟩ q).cell? ⟨x, 4, none⟩ = some q := World.cell?_setCell_same' _ _ _ (by rw [t4]; rfl)
          have u5 := (hch4.cell x 5 (by omega)).trans t5
          have u8 := (hch4.cell x 8 (by omega)).trans t8
          have u9 := (hch4.cell b 9 (by omega)).trans t9
          have z5 := (hch4.fz ⟨x, 5, none⟩).trans (hfx 5)
          have z9 := (hch4.fz ⟨b, 9, none⟩).trans (hfb 9)
          have hw5 : IntKind.i64.wrap ((ad : Int) - (i : Int)) = (ad : Int) - (i : Int) := wrapI (by omega) (by omega)
          have hw9 : IntKind.i64.wrap ((sent : Int) + (i : Int)) = (sent : Int) + (i : Int) := wrapI (by omega) (by omega)
          have HU4 := hide u4
          obtain ⟨aq, cq, hqv⟩ := row_len hLQ.row
          have HQV := hide hqv
          clear hLQ hblk2 hgk t5 t8 t9 hfx hfb hqv u4
          rw [unhide HQV] at hch4 u5 u8 u9 z5 z9 HU4 ⊢
          have HC4 := hide hch4
          clear hch4
          go_upto_region 15 with fail
          generalize wr.setCell ⟨x, 4, none⟩ (.slice aq j cq) = wb at *
          clear t4 y4
          have hcd1 : Ch wb (wb.setCell ⟨x, 5, none⟩ (.int .i64 ((ad : Int) - (i : Int)))) (fun a o => a = x ∧ o = 5) := (Ch.refl wb _).setCell ⟨rfl, rfl⟩ _
          have v8 := (hcd1.cell x 8 (by omega)).trans u8
          have v9 := (hcd1.cell b 9 (by omega)).trans u9
          have v5 : (wb.setCell ⟨x, 5, none⟩ (.int .i64 ((ad : Int) - (i : Int)))).cell? ⟨x, 5, none⟩ = some (.int .i64 ((ad : Int) - (i : Int))) := World.cell?_setCell_same' _ _ _ (by rw [u5]; rfl)
          have x9 := (hcd1.fz ⟨b, 9, none⟩).trans z9
          have HCl : Hid (∀ W : World, Ch ((wb.setCell ⟨x, 5, none⟩ (.int .i64 ((ad : Int) - (i : Int)))).setCell ⟨b, 9, none⟩ (.int .i64 ((sent : Int) + (i : Int)))) W (fun _ _ => False) → Calls Tryz.prog 124 #[.pointer (some ⟨b, 0, none⟩), .pointer (some ⟨x, 0, none⟩)] W fun e w3 => e = .returned (.tuple #[]) ∧ w3.heap[zb]? = some (.cells #[.int .i64 (num : Int), .int .i64 (at' : Int), pv] 200) ∧ w3.heap[w.heap.size]? = some (.cells #[.int .i64 0, .int .i64 0, .slice none 0 0] 200) ∧ R2 zb pv w3) := by
            intro W hW
            have hce : Ch wb ((wb.setCell ⟨x, 5, none⟩ (.int .i64 ((ad : Int) - (i : Int)))).setCell ⟨b, 9, none⟩ (.int .i64 ((sent : Int) + (i : Int)))) (fun a o => (a = x ∧ o = 5) ∨ (a = b ∧ o = 9)) := ((Ch.refl wb _).setCell (.inl ⟨rfl, rfl⟩) _).setCell (.inr ⟨rfl, rfl⟩) _
            have hcf := (hce.trans hW).mono (T := fun a o => (a = x ∧ o = 5) ∨ (a = b ∧ o = 9)) fun a o q => by
              rcases q with q | q
              · exact q
              · exact q.elim
            have hS := rsl_mk (unhide HRR) (unhide HCa) (unhide HA6) (unhide HBse) hby hka (unhide HFW) (unhide HS1) (unhide HZB) (unhide HLP) (by have h := unhide HLQ; rw [unhide HQV] at h; exact h) hjp (unhide HC4) (unhide HU4) hcf (by
              rw [hW.cell _ _ (fun q => q), World.cell?_setCell_other _ _ _ _ (by intro q; injection q with q; exact hbx q)]; exact v5) (by
              rw [hW.cell _ _ (fun q => q)]
              exact World.cell?_setCell_same' _ _ _ (by rw [v9]; rfl))
            refine (unhide HB w1 W zb pv _ (unhide HR1) hS).mono ?_
            rintro e w3 ⟨rfl, h1, h2, h3⟩
            have hzl := (Array.getElem?_eq_some_iff.1 hzr).1
            exact ⟨rfl, h1.trans hS.bt, h2.trans ((hS.fr.blk _ hzl (fun q => by rcases q with q | q; exact hzx q; exact hzb q)).trans hzr), h3⟩
          clear hcd1 HB
          go_region_law (fail)
          all_goals
              generalize wb.setCell ⟨x, 5, none⟩ (.int .i64 ((ad : Int) - (i : Int))) = wd at *
              go_upto_region 16 with fail
              go_region_law (fail)
              all_goals
                go_wp2_with fail
                refine (unhide HCl _ (by first | exact (Ch.refl _ _).drew.drew | exact ((Ch.refl _ _).drewN _))).mono ?_
                rintro e w3 ⟨rfl, hq1, hq2, hq3⟩
                obtain ⟨k0, k1, k2⟩ := cells3b hq1
                obtain ⟨l0, l1, l2⟩ := cells3b hq2
                have lz : ∀ o, w3.frozen? ⟨w.heap.size, o, none⟩ = false := fun o => by simp [World.frozen?, hq2]
                have lz0 := lz 0; have lz1 := lz 1; have lz2 := lz 2
                have HQ2 := hide hq2; have HQ3 := hide hq3
                obtain ⟨ap, cp, hpv⟩ := row_len (unhide HLP).row
                rw [hpv] at k2
                have HPV := hide hpv
                clear hq1 hq2 hq3 lz hpv
                go_wp2_with fail
                refine bodyPost_ret (results_rel _ _ w.heap.size (.int .i64 (num : Int)) (.int .i64 (at' : Int)) (.slice ap i cp) rfl (set3_heap (unhide HQ2) _ _ _)) rfl ⟨_, rfl, ?_⟩
                rw [← unhide HPV]
                exact unhide HP zb pv w3 _ (unhide HQ3) (set3_ch w3 w.heap.size _ _ _)
end Go.Proofs.YtogdekjklbbbiaaGreatDoor
