import Derived.Test.YtogdekjklbbbiaaDoorIns
set_option maxRecDepth 100000
namespace Go.Proofs.YtogdekjklbbbiaaDoor
open Go.ChangeShapes Go.WideShapes Go.ChangeAt Go.RowKit
set_option linter.unusedSimpArgs false
set_option linter.unusedVariables false

def drop1 (x : Nat) (L : List Nat) : List Nat := L.filter fun y => decide (y ≠ x)
theorem drop1_of (l r : List Nat) (x : Nat) (h : (l ++ x :: r).Nodup) : drop1 x (l ++ x :: r) = l ++ r := by
  rw [List.nodup_append] at h
  obtain ⟨h1, h2, h3⟩ := h
  unfold drop1
  rw [List.filter_append, List.filter_cons]
  have e1 : l.filter (fun y => decide (y ≠ x)) = l := List.filter_eq_self.2 fun y hy => by
    have := h3 y hy x (by simp)
    simpa using this
  have e2 : r.filter (fun y => decide (y ≠ x)) = r := List.filter_eq_self.2 fun y hy => by
    have := (List.nodup_cons.1 h2).1
    simp
    exact fun e => this (e ▸ hy)
  rw [e1, e2]
  simp
theorem mem_drop1 {x y : Nat} {L : List Nat} : y ∈ drop1 x L ↔ y ∈ L ∧ y ≠ x := by simp [drop1]
theorem drop1_not {x : Nat} {L : List Nat} (h : x ∉ L) : drop1 x L = L := List.filter_eq_self.2 fun y hy => by
  simp
  exact fun e => h (e ▸ hy)
theorem length_drop1 {x : Nat} {L : List Nat} (hx : x ∈ L) (hn : L.Nodup) : (drop1 x L).length + 1 = L.length := by
  obtain ⟨l, r, rfl⟩ := List.append_of_mem hx
  rw [drop1_of l r x hn]
  simp
  omega
theorem filter_drop1 (x : Nat) (L : List Nat) (p : Nat → Bool) : (drop1 x L).filter p = drop1 x (L.filter p) := by
  unfold drop1
  rw [List.filter_filter, List.filter_filter]
  exact List.filter_congr fun _ _ => by rw [Bool.and_comm]

theorem PI.cut {now : Nat} {L : List Nat} {ls : Nat → List Nat} {ids ats : Nat → Nat} (h : PI now L ls ids ats) {x : Nat} (hx : x ∈ L) :
    PI now (drop1 x L) (upd ls (home now (ats x)) (drop1 x (ls (home now (ats x))))) ids ats := by
  refine ⟨List.Pairwise.filter _ h.lnd, fun y hy z hz e => h.idi y (mem_drop1.1 hy).1 z (mem_drop1.1 hz).1 e, fun y hy => h.bd y (mem_drop1.1 hy).1, ?_, ?_⟩
  · intro p hp y hy
    by_cases e : p = home now (ats x)
    · subst e
      rw [upd_same] at hy
      obtain ⟨h1, h2⟩ := mem_drop1.1 hy
      exact ⟨(h.A _ hp y h1).1, mem_drop1.2 ⟨(h.A _ hp y h1).2, h2⟩⟩
    · rw [upd_other _ _ e] at hy
      obtain ⟨h1, h2⟩ := h.A p hp y hy
      refine ⟨h1, mem_drop1.2 ⟨h2, fun q => e ?_⟩⟩
      rw [← h1, q]
  · intro y hy
    obtain ⟨h1, h2⟩ := mem_drop1.1 hy
    rw [filter_drop1]
    by_cases e : home now (ats y) = home now (ats x)
    · rw [e, upd_same, filter_drop1, ← e, h.B y h1]
    · rw [upd_other _ _ e, h.B y h1, drop1_not]
      intro q
      have := (List.mem_filter.1 q).2
      simp at this
      exact e (by rw [this])

theorem byId_drop (ids : Nat → Nat) (L : List Nat) (x : Nat) (hx : x ∈ L) (hinj : ∀ a ∈ L, ∀ c ∈ L, ids a = ids c → a = c) (i : Int) : byId ids (drop1 x L) i = if i = (ids x : Int) then none else byId ids L i := by
  unfold byId
  by_cases e : i = (ids x : Int)
  · rw [if_pos e, List.find?_eq_none]
    intro y hy
    obtain ⟨h1, h2⟩ := mem_drop1.1 hy
    simp
    intro q
    exact h2 (hinj y h1 x hx (by omega))
  · rw [if_neg e, drop1, List.find?_filter]
    congr 1
    funext y
    by_cases q : (ids y : Int) = i
    · have : y ≠ x := fun q' => e (by rw [← q, q'])
      simp [q, this]
    · simp [q]

theorem byId_some {ids : Nat → Nat} {L : List Nat} {i : Int} {x : Nat} (h : byId ids L i = some x) : x ∈ L ∧ (ids x : Int) = i := by
  have h1 := List.mem_of_find?_eq_some h
  have h2 := List.find?_some h
  exact ⟨h1, by simpa using h2⟩

set_option maxHeartbeats 1000000 in
theorem cancel_none (b m : Nat) (id : Int) (w : World) (hm : w.cell? ⟨b, 1, none⟩ = some (.map (some m)))
    (hl : (Instr.lookup 77 (.map (some m)) (.int .i64 id) false).run Tryd.prog w = .ok (.pointer none) w) :
    Calls Tryd.prog 33 #[.pointer (some ⟨b, 0, none⟩), .int .i64 id] w fun e w' => e = .returned (.int .i64 5) ∧ w' = w := by
  go_enter Tryd.func33, Tryd.ntmps33
  go_wp2
  go_ret
  exact ⟨rfl, rfl⟩
set_option maxHeartbeats 1000000 in
theorem cancel_some (b m x : Nat) (id : Int) (w w2 : World) (hm : w.cell? ⟨b, 1, none⟩ = some (.map (some m)))
    (hl : (Instr.lookup 77 (.map (some m)) (.int .i64 id) false).run Tryd.prog w = .ok (.pointer (some ⟨x, 0, none⟩)) w)
    (hd : (Builtin.delete_ #[77, 3] 0 #[.map (some m), .int .i64 id]).run Tryd.prog w = .ok (.tuple #[]) w2) (Post : World → Prop)
    (hp : Calls Tryd.prog 65 #[.pointer (some ⟨b, 0, none⟩), .pointer (some ⟨x, 0, none⟩)] w2 fun e w' => e = .returned (.tuple #[]) ∧ Post w') :
    Calls Tryd.prog 33 #[.pointer (some ⟨b, 0, none⟩), .int .i64 id] w fun e w' => e = .returned (.int .i64 0) ∧ Post w' := by
  have HP := hide hp; clear hp
  go_enter Tryd.func33, Tryd.ntmps33
  go_wp2_with fail
  refine (unhide HP).mono ?_
  rintro e w3 ⟨rfl, hpost⟩
  have HO := hide hpost
  clear hpost
  go_wp2
  go_ret
  exact ⟨rfl, unhide HO⟩

theorem cancel_ok {w : World} {b m : Nat} {O : Nat → Prop} {now : Nat} {L : List Nat} {ls : Nat → List Nat} {us ids ats : Nat → Nat} (h : WH w b m O now L ls us ids ats) {x : Nat} (hx : x ∈ L) :
    Calls Tryd.prog 33 #[.pointer (some ⟨b, 0, none⟩), .int .i64 (ids x : Int)] w fun e w' => e = .returned (.int .i64 0) ∧ Fr w w' O ∧ w'.heap.size = w.heap.size ∧
      ∃ us', WH w' b m O now (drop1 x L) (upd ls (home now (ats x)) (drop1 x (ls (home now (ats x))))) us' ids ats := by
  have hm := h.mem
  have hbd := h.pi.bd x hx
  have wfi : (Lit.int .i64 (ids x : Int)).wf = true := by simp [Lit.wf, IntKind.min, IntKind.max, IntKind.signed, IntKind.bits]; omega
  have hfx : byId ids L (ids x : Int) = some x := by
    cases e : byId ids L (ids x : Int) with
    | none =>
      unfold byId at e
      rw [List.find?_eq_none] at e
      have := e x hx
      simp at this
    | some y =>
      obtain ⟨h1, h2⟩ := byId_some e
      rw [h.pi.idi y h1 x hx (by omega)]
  have hlook := h.map.look (ids x : Int) wfi
  rw [hfx, PV_some] at hlook
  have hlen := length_drop1 hx h.pi.lnd
  have hmap := h.map
  rw [← hlen] at hmap
  obtain ⟨w2, hrun, hM2, hT⟩ := hmap.del (ids x : Int) wfi (by rw [hfx]; rfl) 0
  obtain ⟨hfr, hsz, hblk, hfz⟩ := turned_fr (O := O) hT hm.om
  have hW2 : WM w2 b m O now ls us ids ats := hm.kept2 (by omega) (fun k _ hk => hblk k hk) fun k hO o => by rw [hfz]; exact hm.fz k hO o
  have hin := h.pi.mem hx
  obtain ⟨l, r, hlr⟩ := List.append_of_mem hin
  have hhl := home_lt hm.nowlt hbd.2
  have hnd := hm.nd _ hhl
  rw [hlr] at hnd
  have hd1 := drop1_of l r x hnd
  rw [← hlr] at hd1
  refine cancel_some b m x _ w w2 hm.cmap hlook hrun _ ((displace_any hW2 (fun l hl => (h.ub l hl).1) hlr hbd.2).mono ?_)
  rintro e w' ⟨rfl, h3, h4⟩
  rw [← hd1] at h3
  refine ⟨rfl, Fr.trans hfr h4.fr (fun _ _ q => q), h4.size.trans hsz, _, ⟨h3, ?_, ?_, h.pi.cut hx⟩⟩
  · exact (hM2.kept (h4.blk m fun _ q => q.2 rfl)).congr (byId_drop ids L x hx h.pi.idi)
  · exact h.ub.cut (lv_le hm.nowlt hbd.2) _ (fun q => by rw [q] at hin; simp at hin)

set_option maxHeartbeats 1000000 in
theorem len_walk (b m n : Nat) (w : World) (hm : w.cell? ⟨b, 1, none⟩ = some (.map (some m))) (hl : ∀ ty, (Builtin.len_ #[77] ty #[.map (some m)]).run Tryd.prog w = .ok (.int .i64 (n : Int)) w) :
    Calls Tryd.prog 13 #[.pointer (some ⟨b, 0, none⟩)] w fun e w' => e = .returned (.int .i64 (n : Int)) ∧ w' = w := by
  go_enter Tryd.func13, Tryd.ntmps13
  go_wp2
  go_ret
  exact ⟨rfl, rfl⟩
theorem len_any {w : World} {b m : Nat} {O : Nat → Prop} {now : Nat} {L : List Nat} {ls : Nat → List Nat} {us ids ats : Nat → Nat} (h : WH w b m O now L ls us ids ats) :
    Calls Tryd.prog 13 #[.pointer (some ⟨b, 0, none⟩)] w fun e w' => e = .returned (.int .i64 (L.length : Int)) ∧ w' = w :=
  len_walk b m _ w h.mem.cmap (fun ty => h.map.len ty)
end Go.Proofs.YtogdekjklbbbiaaDoor
