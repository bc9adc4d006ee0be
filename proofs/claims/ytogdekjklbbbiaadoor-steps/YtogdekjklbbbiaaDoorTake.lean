import Derived.Test.YtogdekjklbbbiaaDoorOpen
import Derived.Test.YtogdekjklbbbiaaDoorSort33
import Derived.Laws.AppendOwn
import Derived.Maps.AppendAt
import Derived.Deep.RegionLaw
namespace Go.Proofs.YtogdekjklbbbiaaDoor
open Go.ChangeShapes Go.WideShapes Go.ChangeAt Go.RowKit
set_option linter.unusedSimpArgs false
set_option linter.unusedVariables false

theorem info42 : (Tryd.prog.info? 78).map (fun i => (i.zero, i.size, i.bytes)) = some (some (.pointer none), 1, 8) := by kernel_rfl
theorem info3 : (Tryd.prog.info? 3).map (fun i => (i.zero, i.size, i.bytes)) = some (some (.int .i64 0), 1, 8) := by kernel_rfl
theorem row_kept {w w' : World} {n0 e sz n : Nat} {v : Value} {xs : List Value} (h : w.ownsRow n0 e sz v n xs) (hk : ∀ k, n0 ≤ k → k < w.heap.size → w'.heap[k]? = w.heap[k]?) : w'.ownsRow n0 e sz v n xs := by
  refine ⟨h.1, ?_⟩
  rcases h.2 with q | ⟨g, cap, cur, h1, h2, h3, h4⟩
  · exact .inl q
  · exact .inr ⟨g, cap, cur, h1, h2, by rw [hk g h2 (by have := (Array.getElem?_eq_some_iff.1 h3).1; exact this)]; exact h3, h4⟩
theorem step_delete {P : Program} {ops : Array Oper} {o : Oper} {a : Act} {w w' : World} {K : Act → World → Prop} {Q : Exit → Act → World → Prop} {E : Prop}
    (hg : o.guard = none) (s x : Operand) (t u : TypeId) (hop : o.op = Op.call { callee := Callee.builtin Builtin.delete, args := #[s, x], argTypes := #[t, u] }) (v k : Value) (hs : a.eval s = v) (hx : a.eval x = k)
    (hrun : (Builtin.delete_ #[t, u] o.type #[v, k]).run P w = .ok (.tuple #[]) w')
    (hK : K (a.put o.dst (.tuple #[])) w') :
    if Region.wanted o (yielded ops a.tmps) = true then Oper.wp P o a w K Q else E := by
  have hw : Region.wanted o (yielded ops a.tmps) = true := by simp [Region.wanted, hg]
  rw [if_pos hw]
  unfold Oper.wp
  simp [execOp, hop, resolve, invoke, builtin, hs, hx, hrun, Result.andThen]
  exact hK
set_option maxHeartbeats 1000000 in
theorem take_walk (b m n0 : Nat) (ids ats : Nat → Nat) (w : World) (xs : List Nat) (hxl : xs.length < 17592186044416) (R : List Nat → World → Prop) (T : List Nat → Nat → World → Prop)
    (h0 : R xs w) (hn : ∀ r wr, R r wr → n0 ≤ wr.heap.size)
    (hG : ∀ r wr w' row, R r wr → wr.grownBy w' row → (∀ k, row = some k → n0 ≤ k) → R r w')
    (hE : ∀ r wr, R r wr → Calls Tryd.prog 40 #[.pointer (some ⟨b, 2, none⟩)] wr fun e w' => e = .returned (.bool r.isEmpty) ∧ w' = wr)
    (hP : ∀ x r wr, R (x :: r) wr → Calls Tryd.prog 72 #[.pointer (some ⟨b, 2, none⟩)] wr fun e w' => e = .returned (.pointer (some ⟨x, 0, none⟩)) ∧ R r w' ∧ ∀ k, n0 ≤ k → w'.heap[k]? = wr.heap[k]?)
    (hK : ∀ wr, R [] wr → ∀ z ∈ xs, z < n0 ∧ wr.cell? ⟨z, 3, none⟩ = some (.int .i64 (ats z : Int)))
    (HSym : ∀ g cap, SymD g cap xs.length ats)
    (hT0 : ∀ D wr w', R [] wr → Sorted ats xs D → (w' = wr ∨ ∃ g, n0 ≤ g ∧ Ch wr w' (fun a _ => a = g)) → T D 0 w')
    (hTn : ∀ D k wr, T D k wr → n0 ≤ wr.heap.size ∧ wr.cell? ⟨b, 1, none⟩ = some (.map (some m)))
    (hTG : ∀ D k wr w' row, T D k wr → wr.grownBy w' row → (∀ k, row = some k → n0 ≤ k) → T D k w')
    (hTi : ∀ D k (j : Nat) x wr, T D k wr → D[j]? = some x → wr.cell? ⟨x, 2, none⟩ = some (.int .i64 (ids x : Int)))
    (hTd : ∀ D k x wr, T D k wr → D[k]? = some x →
      ∃ w', (Builtin.delete_ #[77, 3] 0 #[.map (some m), .int .i64 (ids x : Int)]).run Tryd.prog wr = .ok (.tuple #[]) w' ∧ T D (k + 1) w' ∧ wr.heap.size = w'.heap.size ∧ ∀ k, n0 ≤ k → w'.heap[k]? = wr.heap[k]?) :
    Calls Tryd.prog 39 #[.pointer (some ⟨b, 0, none⟩)] w fun e w' => ∃ D v, e = .returned v ∧ Sorted ats xs D ∧ w'.ownsRow n0 3 1 v D.length (D.map fun x => Value.int .i64 (ids x : Int)) ∧ T D D.length w' := by
  obtain ⟨i0, hi, hz0, hz1, hz2⟩ := info_parts info42
  have H0 := hide h0; have HN := hide hn; have HG := hide hG; have HE := hide hE; have HP := hide hP; have HKey := hide hK; have HSy := hide HSym; have HT0 := hide hT0; have HTn := hide hTn; have HTG := hide hTG; have HTd := hide hTd; have HTi := hide hTi
  clear h0 hn hG hE hP hK HSym hT0 hTn hTG hTd hTi
  obtain ⟨i1, hj, hy0, hy1, hy2⟩ := info_parts info3
  go_enter Tryd.func39, Tryd.ntmps39
  go_wp2
  go_slots
  go_loopg [3] xs.length (fun k v wr => ∃ d r, xs = d ++ r ∧ k = r.length ∧ wr.ownsRow n0 78 1 v d.length (ptrs d) ∧ R r wr)
  case atStart => exact ⟨[], xs, rfl, rfl, World.ownsRow_nil _ _ _ _, unhide H0⟩
  case round =>
    obtain ⟨d, r, ex, hk, hrow, hR⟩ := hrel
    have HK := hide hk; have HR := hide hR; have HX := hide ex
    clear hk hR ex
    cases r with
    | nil =>
      go_wp2_with fail
      refine (unhide HE _ _ (unhide HR)).mono ?_
      rintro e w2 ⟨rfl, hw2⟩
      rw [hw2]
      have ed : d = xs := by have := unhide HX; simpa using this.symm
      rw [ed] at hrow
      have hso := hide (sort33 (ats := ats) hrow (by omega) (unhide HKey _ (unhide HR)) (unhide HSy))
      go_wp2_with fail
      refine (unhide hso).mono ?_
      rintro e w3 ⟨rfl, D, hD, hDue⟩
      have hlenD := hD.len
      have HD := hide hD
      have hT3 : Hid (T D 0 w3) := by
        rcases hDue with ⟨_, _, q⟩ | ⟨g, cap, _, q1, _, q2, _⟩
        · exact unhide HT0 D _ _ (unhide HR) hD (.inl q)
        · exact unhide HT0 D _ _ (unhide HR) hD (.inr ⟨g, q1, q2⟩)
      have hv3 : ∃ a cap, u3 = .slice a D.length cap ∧ ∀ k x, D[k]? = some x → ∃ g, a = some ⟨g, 0, none⟩ ∧ n0 ≤ g ∧ g < w3.heap.size ∧ w3.cell? ⟨g, k, none⟩ = some (.pointer (some ⟨x, 0, none⟩)) := by
        rcases hDue with ⟨q1, q2, _⟩ | ⟨g, cap, q0, q1, q3, q2, q4⟩
        · exact ⟨none, 0, by rw [q1, q2]; rfl, fun k x hx => by rw [q2] at hx; simp at hx⟩
        · exact ⟨_, cap, q0, fun k x hx => ⟨g, rfl, q1, by rw [q2.size]; exact q3, q4 k x hx⟩⟩
      obtain ⟨a3, cap3, hu3, hrd⟩ := hv3
      have HRD := hide hrd
      clear hrd hDue hD hso hrow
      rw [hu3]
      have hn3 := (unhide HTn _ _ _ (unhide hT3)).1
      have hDl : D.length < 17592186044416 := by omega
      go_wp2_with (first | (at_make; refine wpList_make_own _ rfl _ _ 33 rfl w3.heap.size 3 i1 (.int .i64 0) 1 Tryd.underlying33 hj hy0 hy1 .i64 .i64 _ xs.length rfl rfl rfl (by rw [hy2]; omega) (by unfold maxLen; omega) (Nat.le_refl _) ?_; intro w4 hown4 hgrow4))
      go_slots
      have hgr := World.grownBy.trans (World.grownBy.refl w3 none) hgrow4
      have HT4 := hide (unhide HTG _ _ _ _ none (unhide hT3) hgrow4 (fun k q => by cases q))
      have HRD4 : Hid (∀ k x, D[k]? = some x → ∃ g, a3 = some ⟨g, 0, none⟩ ∧ n0 ≤ g ∧ g < w3.heap.size ∧ w4.cell? ⟨g, k, none⟩ = some (.pointer (some ⟨x, 0, none⟩))) := by
        intro k x hx
        obtain ⟨g, q1, q2, q3, q4⟩ := unhide HRD k x hx
        exact ⟨g, q1, q2, q3, hgrow4.cell q4 (by simp)⟩
      have HO4 := hide hown4
      have HS4 := hide hgrow4.size
      have HL := hide hlenD
      have HN3 := hide hn3
      clear hown4 hgrow4 hgr HRD hT3 hlenD hn3
      go_loopg [4, 26] xs.length (fun gk v i wr => ∃ k : Nat, i = .int .i64 (k : Int) ∧ gk = xs.length - k ∧ k ≤ xs.length ∧ w3.heap.size ≤ wr.heap.size ∧ wr.ownsRow w3.heap.size 3 1 v k ((D.take k).map fun x => Value.int .i64 (ids x : Int)) ∧ T D k wr ∧ ∀ k x, D[k]? = some x → ∃ g, a3 = some ⟨g, 0, none⟩ ∧ n0 ≤ g ∧ g < w3.heap.size ∧ wr.cell? ⟨g, k, none⟩ = some (.pointer (some ⟨x, 0, none⟩)))
      case atStart => exact ⟨0, rfl, rfl, Nat.zero_le _, unhide HS4, by simpa using unhide HO4, unhide HT4, unhide HRD4⟩
      case round =>
        obtain ⟨k, hu, hgk, hkl, hsz5, hown5, hT5, hrd5⟩ := hrel
        rw [hu]
        clear hu
        by_cases hk : k < xs.length
        · have hkD : k < D.length := by rw [unhide HL]; exact hk
          obtain ⟨g, ha3, hg1, hg2, hg3⟩ := hrd5 k D[k] (List.getElem?_eq_getElem hkD)
          generalize hxe : D[k] = x at hg3
          have hDk : D[k]? = some x := by rw [← hxe]; exact List.getElem?_eq_getElem hkD
          have hki : (k : Int) < (xs.length : Int) := by omega
          have hk0 : (0 : Int) ≤ (k : Int) := by omega
          have hcm := (unhide HTn _ _ _ hT5).2
          have hci := unhide HTi _ _ _ _ _ hT5 hDk
          have HH : Hid (gk = xs.length - k) := hgk
          have HO5 := hide hown5
          have HT5 := hide hT5
          have HRD5 := hide hrd5
          have HDk := hide hDk
          have HXE := hide hxe
          clear hgk hown5 hT5 hrd5 hDk hxe
          subst ha3
          go_wp2_with fail
          obtain ⟨w6, hrun6, hT6, hsz6, hhi6⟩ := (unhide HTd _ _ _ _ (unhide HTG _ _ _ wr.drew none (unhide HT5) ⟨rfl, rfl, rfl, Nat.le_refl _, fun _ _ _ => rfl⟩ (fun k q => by cases q)) (unhide HDk))
          have HRun := hide hrun6
          have HT6 := hide hT6
          have HHi := hide hhi6
          have HSz := hide hsz6
          clear hrun6 hT6 hhi6 hsz6
          have hci6 := unhide HTi _ _ _ _ _ (unhide HT6) (unhide HDk)
          have hn3' := unhide HN3
          have hgt : ∀ j, n0 ≤ j → w6.heap[j]? = wr.heap[j]? := unhide HHi
          have hown6 : w6.ownsRow w3.heap.size 3 1 u4 k ((D.take k).map fun x => Value.int .i64 (ids x : Int)) := row_kept (unhide HO5) fun j hj _ => hgt j (Nat.le_trans hn3' hj)
          have hsz6 : w3.heap.size ≤ w6.heap.size := by rw [← unhide HSz]; exact hsz5
          have HG6 := hide hgt
          have hrow4 : (w6.alloc (.cells #[.int .i64 (ids x : Int)] 3)).ownsRow w3.heap.size 3 1 u4 k ((D.take k).map fun x => Value.int .i64 (ids x : Int)) := hown6.alloc _
          have hsa : w3.heap.size ≤ (w6.alloc (.cells #[.int .i64 (ids x : Int)] 3)).heap.size := by simp; omega
          have HR4 := hide hrow4
          have HSA := hide hsa
          clear hgt hown6 hrow4 hg3 hsa hsz5
          go_region_law (refine step_delete rfl _ _ _ _ rfl _ _ rfl rfl (unhide HRun) ?_)
          all_goals
            go_wp2_with (first | (at_builtin; refine wpList_append_own _ rfl _ _ 33 rfl w3.heap.size 3 i1 (.int .i64 0) 1 8 Tryd.underlying33 hj hy0 hy1 hy2 rfl (by decide) _ _ _ rfl (unhide HR4) ⟨w6.heap.size, 0, none⟩ 1 1 [.int .i64 (ids x : Int)] rfl rfl (cell_one_new _ _ _) (by simp [Value.oneCell']) (by unfold maxLen; omega) (by omega) (unhide HSA) ?_; intro v' w7 hown7 hgrow7 _))
            go_roundg (xs.length - (k + 1))
            case measure => rw [unhide HH]; omega
            case rel =>
              refine ⟨k + 1, by simp, rfl, by omega, Nat.le_trans (unhide HSA) hgrow7.size, ?_, ?_, ?_⟩
              · rw [List.take_add_one, unhide HDk]
                simpa using hown7
              · exact unhide HTG _ _ _ _ _ (unhide HTG _ _ _ _ none (unhide HT6) (World.grownBy_alloc w6 _ none) (fun k q => by cases q)) hgrow7 (fun j q => Nat.le_trans hn3' ((unhide HR4).lt j q).1)
              · intro j y hy
                obtain ⟨g', q1, q2, q3, q4⟩ := unhide HRD5 j y hy
                refine ⟨g', q1, q2, q3, hgrow7.cell ((World.grownBy_alloc w6 _ none).cell (by rw [World.cell?_of_block (w := wr) (unhide HG6 g' q2)]; exact q4) (by simp)) ?_⟩
                intro q
                have := ((unhide HR4).lt g' q.symm).1
                omega
        · have ek : k = xs.length := by omega
          have hkn : ¬ (k : Int) < (xs.length : Int) := by omega
          have hown5' := unhide (hide hown5)
          have HO5 := hide hown5
          have HT5 := hide hT5
          have HK5 := hide ek
          have HS5 := hide hsz5
          clear hgk hown5 hT5 hrd5 ek hown5' hk hkl hsz5
          go_wp2_with fail
          go_ret
          have ek := unhide HK5
          subst ek
          refine ⟨D, u4, rfl, unhide HD, ?_, ?_⟩
          · have h1 := unhide HO5
            have e1 : D.length = xs.length := unhide HL
            rw [List.take_of_length_le (by omega)] at h1
            rw [e1]
            exact ⟨h1.1, h1.2.imp (fun q => q) fun ⟨g, cap, cur, q1, q2, q3, q4⟩ => ⟨g, cap, cur, q1, Nat.le_trans (unhide HN3) q2, q3, q4⟩⟩
          · rw [unhide HL]; exact unhide HT5
    | cons x r =>
      go_wp2_with fail
      refine (unhide HE _ _ (unhide HR)).mono ?_
      rintro e w2 ⟨rfl, hw2⟩
      rw [hw2]
      go_wp2_with fail
      refine (unhide HP _ _ _ (unhide HR)).mono ?_
      rintro e w3 ⟨rfl, hR3, hg3⟩
      have HR3 := hide hR3
      clear hR3
      have hrow3 : w3.ownsRow n0 78 1 u3 d.length (ptrs d) := row_kept hrow fun k hk _ => hg3 k hk
      have hn3 := unhide HN _ _ (unhide HR3)
      have hdl : d.length < 17592186044416 := by have := congrArg List.length (unhide HX); simp at this; omega
      clear hrow hg3
      have hrow4 : (w3.alloc (.cells #[.pointer (some ⟨x, 0, none⟩)] 78)).ownsRow n0 78 1 u3 d.length (ptrs d) := hrow3.alloc _
      go_wp2_with (first | (at_builtin; refine wpList_append_own _ rfl _ _ 153 rfl n0 78 i0 (.pointer none) 1 8 Tryd.underlying153 hi hz0 hz1 hz2 rfl (by decide) _ _ _ rfl hrow4 ⟨w3.heap.size, 0, none⟩ 1 1 [.pointer (some ⟨x, 0, none⟩)] rfl rfl (cell_one_new _ _ _) (by simp [Value.oneCell']) (by unfold maxLen; omega) (by omega) (by simp; omega) ?_; intro v' w4 hown4 hgrow4 _))
      have HR4 := hide (unhide HG _ _ _ _ (unhide HG _ _ _ none (unhide HR3) (World.grownBy_alloc w3 _ none) (fun k q => by cases q)) hgrow4 (fun k q => (hrow4.lt k q).1))
      go_roundg r.length
      case measure => rw [unhide HK]; simp
      case rel => exact ⟨d ++ [x], r, by rw [unhide HX]; simp, rfl, by simpa [ptrs] using hown4, unhide HR4⟩
end Go.Proofs.YtogdekjklbbbiaaDoor
