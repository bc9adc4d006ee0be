import Derived.Test.YtogdekjklbbbiaaGreatDoorZ19
set_option maxRecDepth 100000
namespace Go.Proofs.YtogdekjklbbbiaaGreatDoor
open Go.ChangeShapes Go.WideShapes Go.ChangeAt Go.RowKit
set_option linter.unusedSimpArgs false
set_option linter.unusedVariables false

def byId (ids : Nat → Nat) (L : List Nat) (i : Int) : Option Nat := L.find? fun x => decide ((ids x : Int) = i)

/-- The invariant of what waits: L, in the order in which it was inserted. -/
structure PI (now : Nat) (L : List Nat) (ls : Nat → List Nat) (ids ats : Nat → Nat) : Prop where
  lnd : L.Nodup
  idi : ∀ x ∈ L, ∀ y ∈ L, ids x = ids y → x = y
  bd : ∀ x ∈ L, ids x < 9223372036854775808 ∧ ats x < 9223372036854775808
  A : ∀ p, p < 705 → ∀ x ∈ ls p, home now (ats x) = p ∧ x ∈ L
  B : ∀ x ∈ L, (ls (home now (ats x))).filter (fun y => decide (ats y = ats x)) = L.filter (fun y => decide (ats y = ats x))

structure WH (w : World) (b m : Nat) (O : Nat → Prop) (now : Nat) (L : List Nat) (ls : Nat → List Nat) (us ids ats : Nat → Nat) : Prop where
  mem : WM w b m O now ls us ids ats
  map : MapOK w m (byId ids L) L.length
  ub : UB us ls 0
  pi : PI now L ls ids ats

theorem PI.mem {now : Nat} {L : List Nat} {ls : Nat → List Nat} {ids ats : Nat → Nat} (h : PI now L ls ids ats) {x : Nat} (hx : x ∈ L) : x ∈ ls (home now (ats x)) := by
  have : x ∈ (ls (home now (ats x))).filter (fun y => decide (ats y = ats x)) := by rw [h.B x hx]; simp [hx]
  exact (List.mem_filter.1 this).1

theorem WM.ids {w : World} {b m : Nat} {O : Nat → Prop} {now : Nat} {ls : Nat → List Nat} {us ids ats ids' ats' : Nat → Nat} (h : WM w b m O now ls us ids ats) (he : ∀ p, p < 705 → ∀ x ∈ ls p, ids' x = ids x ∧ ats' x = ats x) : WM w b m O now ls us ids' ats' :=
  ⟨h.olt, h.ob, h.om, h.bm, h.ox, h.nowlt, h.cnow, h.cmap, h.cl, h.cu, h.fz, fun p hp x hx => by rw [(he p hp x hx).1, (he p hp x hx).2]; exact h.cw p hp x hx, h.nd, h.dj⟩

theorem byId_snoc (ids : Nat → Nat) (L : List Nat) (x id : Nat) (hx : x ∉ L) (hid : ∀ y ∈ L, ids y ≠ id) (i : Int) : byId (upd ids x id) (L ++ [x]) i = if i = (id : Int) then some x else byId ids L i := by
  unfold byId
  have e1 : L.find? (fun y => decide (((upd ids x id) y : Int) = i)) = L.find? (fun y => decide ((ids y : Int) = i)) := by
    clear hid
    induction L with
    | nil => rfl
    | cons y r ih =>
      have hy : y ≠ x := fun e => hx (by simp [e])
      rw [List.find?_cons, List.find?_cons, upd_other _ _ hy, ih (fun h => hx (by simp [h]))]
  rw [List.find?_append, e1]
  by_cases e : i = (id : Int)
  · rw [if_pos e]
    have : L.find? (fun y => decide ((ids y : Int) = i)) = none := by
      rw [List.find?_eq_none]
      intro y hy
      have := hid y hy
      simp
      omega
    rw [this]
    simp [upd, e]
  · rw [if_neg e]
    have : List.find? (fun y => decide (((upd ids x id) y : Int) = i)) [x] = none := by
      simp [upd]
      omega
    rw [this]
    simp

theorem PI.snoc {now : Nat} {L : List Nat} {ls : Nat → List Nat} {ids ats : Nat → Nat} (h : PI now L ls ids ats) {x id t : Nat} (hn : now < 9223372036854775808) (hx : x ∉ L) (hid : ∀ y ∈ L, ids y ≠ id) (b1 : id < 9223372036854775808) (b2 : t < 9223372036854775808) :
    PI now (L ++ [x]) (upd ls (home now t) (ls (home now t) ++ [x])) (upd ids x id) (upd ats x t) := by
  have hxl : ∀ p, p < 705 → x ∉ ls p := fun p hp hh => hx (h.A p hp x hh).2
  have hat : ∀ y ∈ L, upd ats x t y = ats y := fun y hy => upd_other _ _ (fun e => hx (e ▸ hy))
  have hidd : ∀ y ∈ L, upd ids x id y = ids y := fun y hy => upd_other _ _ (fun e => hx (e ▸ hy))
  have hlat : ∀ p, p < 705 → ∀ y ∈ ls p, upd ats x t y = ats y := fun p hp y hy => hat y (h.A p hp y hy).2
  refine ⟨?_, ?_, ?_, ?_, ?_⟩
  · rw [List.nodup_append]
    refine ⟨h.lnd, by simp, fun a ha c hc e => ?_⟩
    rw [List.mem_singleton.1 hc] at e
    exact hx (e ▸ ha)
  · intro y hy z hz e
    rcases List.mem_append.1 hy with hy | hy <;> rcases List.mem_append.1 hz with hz | hz
    · rw [hidd y hy, hidd z hz] at e; exact h.idi y hy z hz e
    · rw [List.mem_singleton.1 hz, upd_same, hidd y hy] at e; exact (hid y hy e).elim
    · rw [List.mem_singleton.1 hy, upd_same, hidd z hz] at e; exact (hid z hz e.symm).elim
    · rw [List.mem_singleton.1 hy, List.mem_singleton.1 hz]
  · intro y hy
    rcases List.mem_append.1 hy with hy | hy
    · rw [hidd y hy, hat y hy]; exact h.bd y hy
    · rw [List.mem_singleton.1 hy, upd_same, upd_same]; exact ⟨b1, b2⟩
  · intro p hp y hy
    by_cases e : p = home now t
    · subst e
      rw [upd_same] at hy
      rcases List.mem_append.1 hy with hy | hy
      · rw [hlat _ hp y hy]; exact ⟨(h.A _ hp y hy).1, by simp [(h.A _ hp y hy).2]⟩
      · rw [List.mem_singleton.1 hy, upd_same]; exact ⟨rfl, by simp⟩
    · rw [upd_other _ _ e] at hy
      rw [hlat p hp y hy]; exact ⟨(h.A p hp y hy).1, by simp [(h.A p hp y hy).2]⟩
  · intro y hy
    have hfl : ∀ (M : List Nat) (c : Nat), (∀ z ∈ M, upd ats x t z = ats z) → M.filter (fun z => decide (upd ats x t z = c)) = M.filter (fun z => decide (ats z = c)) := by
      intro M c hM
      exact List.filter_congr fun z hz => by rw [hM z hz]
    have hht : home now t < 705 := home_lt hn b2
    rcases List.mem_append.1 hy with hy | hy
    · rw [hat y hy]
      have hhy : home now (ats y) < 705 := home_lt hn (h.bd y hy).2
      rw [List.filter_append, hfl L _ hat]
      by_cases e : home now (ats y) = home now t
      · rw [e, upd_same, List.filter_append, hfl _ _ (hlat _ hht), ← e, h.B y hy]
      · rw [upd_other _ _ e, hfl _ _ (hlat _ hhy), h.B y hy]
        have : ¬ t = ats y := fun q => e (by rw [q])
        simp [upd, this]
    · rw [List.mem_singleton.1 hy, upd_same, upd_same, List.filter_append, List.filter_append, hfl L _ hat, hfl _ _ (hlat _ hht)]
      congr 1
      by_cases hex : ∃ z ∈ L, ats z = t
      · obtain ⟨z, hz, rfl⟩ := hex
        exact h.B z hz
      · have e1 : L.filter (fun z => decide (ats z = t)) = [] := by
          rw [List.filter_eq_nil_iff]
          intro z hz
          simp
          exact fun q => hex ⟨z, hz, q⟩
        have e2 : (ls (home now t)).filter (fun z => decide (ats z = t)) = [] := by
          rw [List.filter_eq_nil_iff]
          intro z hz
          simp
          exact fun q => hex ⟨z, (h.A _ hht z hz).2, q⟩
        rw [e1, e2]

theorem cellN (w : World) (c : Array Value) (t : TypeId) (o : Nat) : (w.alloc (.cells c t)).cell? ⟨w.heap.size, o, none⟩ = c[o]? := by
  unfold World.cell?
  rw [(MapKept.heap_alloc w _).1]
  simp

set_option maxRecDepth 100000 in
set_option maxHeartbeats 1000000 in
theorem insert_bad (b : Nat) (id t : Int) (w : World) (h : id < 0 ∨ t < 0) :
    Calls Tryz.prog 111 #[.pointer (some ⟨b, 0, none⟩), .int .i64 id, .int .i64 t] w fun e w' => e = .returned (.int .i64 1) ∧ w' = w := by
  by_cases h1 : id < 0
  · clear h
    go_enter Tryz.func111, Tryz.ntmps111
    go_wp2
    go_ret
    exact ⟨rfl, rfl⟩
  · have h2 : t < 0 := by omega
    clear h
    go_enter Tryz.func111, Tryz.ntmps111
    go_wp2
    go_ret
    exact ⟨rfl, rfl⟩
set_option maxRecDepth 100000 in
set_option maxHeartbeats 1000000 in
theorem insert_twice (b m y : Nat) (id t : Int) (w : World) (h1 : 0 ≤ id) (h2 : 0 ≤ t) (hm : w.cell? ⟨b, 1, none⟩ = some (.map (some m)))
    (hl : (Instr.lookup 115 (.map (some m)) (.int .i64 id) false).run Tryz.prog w = .ok (.pointer (some ⟨y, 0, none⟩)) w) :
    Calls Tryz.prog 111 #[.pointer (some ⟨b, 0, none⟩), .int .i64 id, .int .i64 t] w fun e w' => e = .returned (.int .i64 4) ∧ w' = w := by
  go_enter Tryz.func111, Tryz.ntmps111
  go_wp2
  go_ret
  exact ⟨rfl, rfl⟩
set_option maxRecDepth 100000 in
set_option maxHeartbeats 1000000 in
theorem insert_new (b m : Nat) (id t : Int) (w w2 : World) (h1 : 0 ≤ id) (h2 : 0 ≤ t) (hb : b < w.heap.size) (hm : w.cell? ⟨b, 1, none⟩ = some (.map (some m)))
    (hl : (Instr.lookup 115 (.map (some m)) (.int .i64 id) false).run Tryz.prog w = .ok (.pointer none) w)
    (hu : (Instr.mapUpdate 115 (.map (some m)) (.int .i64 id) (.pointer (some ⟨w.heap.size, 0, none⟩))).run Tryz.prog (w.alloc (.cells #[.pointer none, .pointer none, .int .i64 id, .int .i64 t] 179)) = .ok () w2) (Post : World → Prop)
    (hp : Calls Tryz.prog 139 #[.pointer (some ⟨b, 0, none⟩), .pointer (some ⟨w.heap.size, 0, none⟩)] w2 fun e w' => e = .returned (.tuple #[]) ∧ Post w') :
    Calls Tryz.prog 111 #[.pointer (some ⟨b, 0, none⟩), .int .i64 id, .int .i64 t] w fun e w' => e = .returned (.int .i64 0) ∧ Post w' := by
  have HP := hide hp; clear hp
  go_enter Tryz.func111, Tryz.ntmps111
  go_wp2_with fail
  refine (unhide HP).mono ?_
  rintro e w3 ⟨rfl, hpost⟩
  have HO := hide hpost
  clear hpost
  go_wp2
  go_ret
  exact ⟨rfl, unhide HO⟩

/-- The blocks that a wheel owns, with what was laid since. -/
def grownO (O : Nat → Prop) (w w' : World) (k : Nat) : Prop := O k ∨ (w.heap.size ≤ k ∧ k < w'.heap.size)

theorem insert_ok {w : World} {b m : Nat} {O : Nat → Prop} {now : Nat} {L : List Nat} {ls : Nat → List Nat} {us ids ats : Nat → Nat} (h : WH w b m O now L ls us ids ats) (id t : Nat) (b1 : id < 9223372036854775808) (b2 : t < 9223372036854775808) (hid : ∀ y ∈ L, ids y ≠ id) (hlen : L.length < maxLen) :
    Calls Tryz.prog 111 #[.pointer (some ⟨b, 0, none⟩), .int .i64 (id : Int), .int .i64 (t : Int)] w fun e w' => e = .returned (.int .i64 0) ∧ Fr w w' O ∧
      WH w' b m (grownO O w w') now (L ++ [w.heap.size]) (upd ls (home now t) (ls (home now t) ++ [w.heap.size])) (putU us now t) (upd ids w.heap.size id) (upd ats w.heap.size t) := by
  have hm := h.mem
  have wfi : (Lit.int .i64 (id : Int)).wf = true := by simp [Lit.wf, IntKind.min, IntKind.max, IntKind.signed, IntKind.bits]; omega
  have hbl := hm.olt b hm.ob
  have hml := hm.olt m hm.om
  have hxL : w.heap.size ∉ L := by
    intro hh
    have := hm.olt _ (hm.ox _ (home_lt hm.nowlt (h.pi.bd _ hh).2) _ (h.pi.mem hh)).1
    omega
  have hf : byId ids L (id : Int) = none := by
    unfold byId
    rw [List.find?_eq_none]
    intro y hy
    have := hid y hy
    simp
    omega
  have hlook := h.map.look (id : Int) wfi
  rw [hf] at hlook
  obtain ⟨w2, hrun, hM2, hT⟩ := (h.map.kept (w' := w.alloc (.cells #[.pointer none, .pointer none, .int .i64 (id : Int), .int .i64 (t : Int)] 179)) (Below.heap_alloc w _ _ hml)).put hlen (id : Int) wfi hf w.heap.size
  obtain ⟨hfr, hsz, hblk, hfz⟩ := turned_fr (O := O) hT hm.om
  have hsz2 : w2.heap.size = w.heap.size + 1 := by rw [hsz]; simp
  have hfz2 : ∀ a, w2.frozen? a = w.frozen? a := fun a => (hfz a).trans (frozen?_alloc_cells _ _ _ _)
  have hold : ∀ k, O k → k ≠ m → w2.heap[k]? = w.heap[k]? := fun k hO hk => (hblk k hk).trans (Below.heap_alloc w _ _ (hm.olt k hO))
  have hnew : ∀ o, w2.cell? ⟨w.heap.size, o, none⟩ = (#[Value.pointer none, .pointer none, .int .i64 (id : Int), .int .i64 (t : Int)] : Array Value)[o]? := by
    intro o
    have : w2.cell? ⟨w.heap.size, o, none⟩ = (w.alloc (.cells #[.pointer none, .pointer none, .int .i64 (id : Int), .int .i64 (t : Int)] 179)).cell? ⟨w.heap.size, o, none⟩ := World.cell?_of_block (hblk w.heap.size (by omega))
    rw [this, cellN]
  have hxls : ∀ p, p < 705 → w.heap.size ∉ ls p := fun p hp hh => hxL (h.pi.A p hp _ hh).2
  have hW2 : WM w2 b m (fun k => O k ∨ k = w.heap.size) now ls us (upd ids w.heap.size id) (upd ats w.heap.size t) := by
    refine ((hm.kept2 (w' := w2) (by omega) hold fun k hO o => by rw [hfz2]; exact hm.fz k hO o).more (fun k hO => .inl hO) ?_ ?_).ids ?_
    · rintro k (hO | rfl)
      · have := hm.olt k hO; omega
      · omega
    · rintro k (hO | rfl) o
      · rw [hfz2]; exact hm.fz k hO o
      · rw [hfz2]
        unfold World.frozen?
        simp
    · intro p hp x hx
      have : x ≠ w.heap.size := fun e => hxls p hp (e ▸ hx)
      exact ⟨upd_other _ _ this, upd_other _ _ this⟩
  have hplace := place_any hW2 (fun l hl => (h.ub l hl).1) (x := w.heap.size) ⟨.inr rfl, by omega, by omega⟩ hxls (hnew 0) (hnew 1) ((hnew 2).trans (by simp [upd])) ((hnew 3).trans (by simp [upd])) (by rw [upd_same]; exact b1) (by rw [upd_same]; exact b2)
  rw [upd_same] at hplace
  refine insert_new b m id t w w2 (by omega) (by omega) hbl hm.cmap hlook hrun _ (hplace.mono ?_)
  rintro e w' ⟨rfl, h3, h4⟩
  have hszw : w'.heap.size = w.heap.size + 1 := h4.size.trans hsz2
  have hO' : ∀ k, (O k ∨ k = w.heap.size) ↔ grownO O w w' k := by
    intro k
    unfold grownO
    constructor
    · rintro (q | q)
      · exact .inl q
      · exact .inr (by omega)
    · rintro (q | q)
      · exact .inl q
      · exact .inr (by omega)
  have hfr1 : Fr w w2 O := Fr.trans ((Fr.refl w O).alloc _) hfr (fun _ _ q => q)
  refine ⟨rfl, Fr.trans hfr1 h4.fr ?_, ⟨?_, ?_, ?_, ?_⟩⟩
  · rintro k hk (q | q)
    · exact q
    · omega
  · exact h3.more (fun k q => (hO' k).1 q) (fun k q => h3.olt k ((hO' k).2 q)) (fun k q => h3.fz k ((hO' k).2 q))
  · have hmk : w'.heap[m]? = w2.heap[m]? := h4.blk m fun _ q => q.2 rfl
    have := (hM2.kept hmk).congr (g := byId (upd ids w.heap.size id) (L ++ [w.heap.size])) (fun i => byId_snoc ids L w.heap.size id hxL hid i)
    simpa using this
  · exact h.ub.put (lv_le hm.nowlt b2) (fun q => by rw [home_slot q]; omega)
  · exact h.pi.snoc hm.nowlt hxL hid b1 b2
end Go.Proofs.YtogdekjklbbbiaaGreatDoor

namespace Go.Proofs.YtogdekjklbbbiaaGreatDoor
open Go.ChangeShapes Go.WideShapes Go.ChangeAt Go.RowKit
set_option linter.unusedSimpArgs false
set_option linter.unusedVariables false

def drop1 (x : Nat) (L : List Nat) : List Nat := L.filter fun y => decide (y ≠ x)
theorem drop1_of (l r : List Nat) (x : Nat) (h : (l ++ x :: r).Nodup) : drop1 x (l ++ x :: r) = l ++ r := by
  rw [List.nodup_append] at h
  obtain ⟨h1, h2, h3⟩ := h
  unfold drop1
  rw [List.filter_append, List.filter_cons]
  have e1 : l.filter (fun y => decide (y ≠ x)) = l := List.filter_eq_self.2 fun y hy => by
    have := h3 y hy x (by simp)
    simpa using this
  have e2 : r.filter (fun y => decide (y ≠ x)) = r := List.filter_eq_self.2 fun y hy => by
    have := (List.nodup_cons.1 h2).1
    simp
    exact fun e => this (e ▸ hy)
  rw [e1, e2]
  simp
theorem mem_drop1 {x y : Nat} {L : List Nat} : y ∈ drop1 x L ↔ y ∈ L ∧ y ≠ x := by simp [drop1]
theorem drop1_not {x : Nat} {L : List Nat} (h : x ∉ L) : drop1 x L = L := List.filter_eq_self.2 fun y hy => by
  simp
  exact fun e => h (e ▸ hy)
theorem length_drop1 {x : Nat} {L : List Nat} (hx : x ∈ L) (hn : L.Nodup) : (drop1 x L).length + 1 = L.length := by
  obtain ⟨l, r, rfl⟩ := List.append_of_mem hx
  rw [drop1_of l r x hn]
  simp
  omega
theorem filter_drop1 (x : Nat) (L : List Nat) (p : Nat → Bool) : (drop1 x L).filter p = drop1 x (L.filter p) := by
  unfold drop1
  rw [List.filter_filter, List.filter_filter]
  exact List.filter_congr fun _ _ => by rw [Bool.and_comm]

theorem PI.cut {now : Nat} {L : List Nat} {ls : Nat → List Nat} {ids ats : Nat → Nat} (h : PI now L ls ids ats) {x : Nat} (hx : x ∈ L) :
    PI now (drop1 x L) (upd ls (home now (ats x)) (drop1 x (ls (home now (ats x))))) ids ats := by
  refine ⟨List.Pairwise.filter _ h.lnd, fun y hy z hz e => h.idi y (mem_drop1.1 hy).1 z (mem_drop1.1 hz).1 e, fun y hy => h.bd y (mem_drop1.1 hy).1, ?_, ?_⟩
  · intro p hp y hy
    by_cases e : p = home now (ats x)
    · subst e
      rw [upd_same] at hy
      obtain ⟨h1, h2⟩ := mem_drop1.1 hy
      exact ⟨(h.A _ hp y h1).1, mem_drop1.2 ⟨(h.A _ hp y h1).2, h2⟩⟩
    · rw [upd_other _ _ e] at hy
      obtain ⟨h1, h2⟩ := h.A p hp y hy
      refine ⟨h1, mem_drop1.2 ⟨h2, fun q => e ?_⟩⟩
      rw [← h1, q]
  · intro y hy
    obtain ⟨h1, h2⟩ := mem_drop1.1 hy
    rw [filter_drop1]
    by_cases e : home now (ats y) = home now (ats x)
    · rw [e, upd_same, filter_drop1, ← e, h.B y h1]
    · rw [upd_other _ _ e, h.B y h1, drop1_not]
      intro q
      have := (List.mem_filter.1 q).2
      simp at this
      exact e (by rw [this])

theorem byId_drop (ids : Nat → Nat) (L : List Nat) (x : Nat) (hx : x ∈ L) (hinj : ∀ a ∈ L, ∀ c ∈ L, ids a = ids c → a = c) (i : Int) : byId ids (drop1 x L) i = if i = (ids x : Int) then none else byId ids L i := by
  unfold byId
  by_cases e : i = (ids x : Int)
  · rw [if_pos e, List.find?_eq_none]
    intro y hy
    obtain ⟨h1, h2⟩ := mem_drop1.1 hy
    simp
    intro q
    exact h2 (hinj y h1 x hx (by omega))
  · rw [if_neg e, drop1, List.find?_filter]
    congr 1
    funext y
    by_cases q : (ids y : Int) = i
    · have : y ≠ x := fun q' => e (by rw [← q, q'])
      simp [q, this]
    · simp [q]

theorem byId_some {ids : Nat → Nat} {L : List Nat} {i : Int} {x : Nat} (h : byId ids L i = some x) : x ∈ L ∧ (ids x : Int) = i := by
  have h1 := List.mem_of_find?_eq_some h
  have h2 := List.find?_some h
  exact ⟨h1, by simpa using h2⟩

set_option maxHeartbeats 1000000 in
theorem cancel_none (b m : Nat) (id : Int) (w : World) (hm : w.cell? ⟨b, 1, none⟩ = some (.map (some m)))
    (hl : (Instr.lookup 115 (.map (some m)) (.int .i64 id) false).run Tryz.prog w = .ok (.pointer none) w) :
    Calls Tryz.prog 83 #[.pointer (some ⟨b, 0, none⟩), .int .i64 id] w fun e w' => e = .returned (.int .i64 5) ∧ w' = w := by
  go_enter Tryz.func83, Tryz.ntmps83
  go_wp2
  go_ret
  exact ⟨rfl, rfl⟩
set_option maxHeartbeats 1000000 in
theorem cancel_some (b m x : Nat) (id : Int) (w w2 : World) (hm : w.cell? ⟨b, 1, none⟩ = some (.map (some m)))
    (hl : (Instr.lookup 115 (.map (some m)) (.int .i64 id) false).run Tryz.prog w = .ok (.pointer (some ⟨x, 0, none⟩)) w)
    (hd : (Builtin.delete_ #[115, 3] 0 #[.map (some m), .int .i64 id]).run Tryz.prog w = .ok (.tuple #[]) w2) (Post : World → Prop)
    (hp : Calls Tryz.prog 122 #[.pointer (some ⟨b, 0, none⟩), .pointer (some ⟨x, 0, none⟩)] w2 fun e w' => e = .returned (.tuple #[]) ∧ Post w') :
    Calls Tryz.prog 83 #[.pointer (some ⟨b, 0, none⟩), .int .i64 id] w fun e w' => e = .returned (.int .i64 0) ∧ Post w' := by
  have HP := hide hp; clear hp
  go_enter Tryz.func83, Tryz.ntmps83
  go_wp2_with fail
  refine (unhide HP).mono ?_
  rintro e w3 ⟨rfl, hpost⟩
  have HO := hide hpost
  clear hpost
  go_wp2
  go_ret
  exact ⟨rfl, unhide HO⟩

theorem cancel_ok {w : World} {b m : Nat} {O : Nat → Prop} {now : Nat} {L : List Nat} {ls : Nat → List Nat} {us ids ats : Nat → Nat} (h : WH w b m O now L ls us ids ats) {x : Nat} (hx : x ∈ L) :
    Calls Tryz.prog 83 #[.pointer (some ⟨b, 0, none⟩), .int .i64 (ids x : Int)] w fun e w' => e = .returned (.int .i64 0) ∧ Fr w w' O ∧ w'.heap.size = w.heap.size ∧
      ∃ us', WH w' b m O now (drop1 x L) (upd ls (home now (ats x)) (drop1 x (ls (home now (ats x))))) us' ids ats := by
  have hm := h.mem
  have hbd := h.pi.bd x hx
  have wfi : (Lit.int .i64 (ids x : Int)).wf = true := by simp [Lit.wf, IntKind.min, IntKind.max, IntKind.signed, IntKind.bits]; omega
  have hfx : byId ids L (ids x : Int) = some x := by
    cases e : byId ids L (ids x : Int) with
    | none =>
      unfold byId at e
      rw [List.find?_eq_none] at e
      have := e x hx
      simp at this
    | some y =>
      obtain ⟨h1, h2⟩ := byId_some e
      rw [h.pi.idi y h1 x hx (by omega)]
  have hlook := h.map.look (ids x : Int) wfi
  rw [hfx, PV_some] at hlook
  have hlen := length_drop1 hx h.pi.lnd
  have hmap := h.map
  rw [← hlen] at hmap
  obtain ⟨w2, hrun, hM2, hT⟩ := hmap.del (ids x : Int) wfi (by rw [hfx]; rfl) 0
  obtain ⟨hfr, hsz, hblk, hfz⟩ := turned_fr (O := O) hT hm.om
  have hW2 : WM w2 b m O now ls us ids ats := hm.kept2 (by omega) (fun k _ hk => hblk k hk) fun k hO o => by rw [hfz]; exact hm.fz k hO o
  have hin := h.pi.mem hx
  obtain ⟨l, r, hlr⟩ := List.append_of_mem hin
  have hhl := home_lt hm.nowlt hbd.2
  have hnd := hm.nd _ hhl
  rw [hlr] at hnd
  have hd1 := drop1_of l r x hnd
  rw [← hlr] at hd1
  refine cancel_some b m x _ w w2 hm.cmap hlook hrun _ ((displace_any hW2 (fun l hl => (h.ub l hl).1) hlr hbd.2).mono ?_)
  rintro e w' ⟨rfl, h3, h4⟩
  rw [← hd1] at h3
  refine ⟨rfl, Fr.trans hfr h4.fr (fun _ _ q => q), h4.size.trans hsz, _, ⟨h3, ?_, ?_, h.pi.cut hx⟩⟩
  · exact (hM2.kept (h4.blk m fun _ q => q.2 rfl)).congr (byId_drop ids L x hx h.pi.idi)
  · exact h.ub.cut (lv_le hm.nowlt hbd.2) _ (fun q => by rw [q] at hin; simp at hin)

end Go.Proofs.YtogdekjklbbbiaaGreatDoor

namespace Go.Proofs.YtogdekjklbbbiaaGreatDoor
open Go.ChangeShapes Go.WideShapes Go.ChangeAt Go.RowKit
set_option linter.unusedSimpArgs false
set_option linter.unusedVariables false
def zl : List Value := List.replicate 1410 (Value.pointer none) ++ List.replicate 11 (Value.int .u64 0)
def Z0 : Array Value := (Value.int .i64 0 :: Value.map none :: zl).toArray
theorem zero50 (w : World) : (zeroValue 123).run Tryz.prog w = .ok (.agg Z0) w := by kernel_rfl
theorem zl_length : zl.length = 1421 := by unfold zl; rw [List.length_append, List.length_replicate, List.length_replicate]
theorem Z0_size : Z0.size = 1423 := by unfold Z0; rw [List.size_toArray, List.length_cons, List.length_cons, zl_length]
theorem zl_lo (o : Nat) (h : o < 1410) : zl[o]? = some (.pointer none) := by
  unfold zl
  rw [List.getElem?_append_left (by rw [List.length_replicate]; exact h), List.getElem?_replicate, if_pos h]
theorem zl_hi (o : Nat) (h : 1410 ≤ o) (h' : o < 1421) : zl[o]? = some (.int .u64 0) := by
  unfold zl
  rw [List.getElem?_append_right (by rw [List.length_replicate]; exact h), List.length_replicate, List.getElem?_replicate, if_pos (by omega)]
theorem Z1_at (m o : Nat) : (Z0.setIfInBounds 1 (.map (some m)))[o]? = if o = 1 then some (.map (some m)) else if o = 0 then some (.int .i64 0) else zl[o - 2]? := by
  rw [Array.getElem?_setIfInBounds]
  by_cases h : 1 = o
  · rw [if_pos h, if_pos h.symm, if_pos (by rw [Z0_size]; omega)]
  · rw [if_neg h, if_neg (fun e => h e.symm)]
    unfold Z0
    rw [List.getElem?_toArray]
    match o with
    | 0 => rfl
    | 1 => omega
    | o + 2 => simp
set_option maxRecDepth 1000000 in
set_option maxHeartbeats 400000 in
theorem new_walk (w : World) :
    Calls Tryz.prog 19 #[] w fun e w' => e = .returned (.pointer (some ⟨w.heap.size + 1, 0, none⟩)) ∧ w' = (w.alloc (.map #[] 0)).alloc (.cells (Z0.setIfInBounds 1 (.map (some w.heap.size))) 123) := by
  have hmm := @run_makeMap Tryz.prog
  have hb := zero50
  have hz := Z0_size
  go_enter Tryz.func19, Tryz.ntmps19
  go_wp2_with fail
  go_ret
  exact ⟨rfl, rfl⟩
theorem new_any (w : World) :
    Calls Tryz.prog 19 #[] w fun e w' => e = .returned (.pointer (some ⟨w.heap.size + 1, 0, none⟩)) ∧ Fr w w' (fun _ => False) ∧ w'.heap.size = w.heap.size + 2 ∧
      WH w' (w.heap.size + 1) w.heap.size (fun k => w.heap.size ≤ k ∧ k < w.heap.size + 2) 0 [] (fun _ => []) (fun _ => 0) (fun _ => 0) (fun _ => 0) := by
  refine (new_walk w).mono ?_
  rintro e w' ⟨rfl, rfl⟩
  have hsz : (w.alloc (.map #[] 0)).heap.size = w.heap.size + 1 := by simp
  have hc : ∀ o, ((w.alloc (.map #[] 0)).alloc (.cells (Z0.setIfInBounds 1 (.map (some w.heap.size))) 123)).cell? ⟨w.heap.size + 1, o, none⟩ = (Z0.setIfInBounds 1 (.map (some w.heap.size)))[o]? := by
    intro o
    have := cellN (w.alloc (.map #[] 0)) (Z0.setIfInBounds 1 (.map (some w.heap.size))) 123 o
    rw [hsz] at this
    exact this
  have hm : ((w.alloc (.map #[] 0)).alloc (.cells (Z0.setIfInBounds 1 (.map (some w.heap.size))) 123)).heap[w.heap.size]? = (w.alloc (.map #[] 0)).heap[w.heap.size]? := Below.heap_alloc _ _ _ (by rw [hsz]; omega)
  refine ⟨rfl, ((Fr.refl w _).alloc _).alloc _, by simp, ⟨⟨?_, by omega, by omega, by omega, fun p _ x hx => by simp at hx, by omega, ?_, ?_, ?_, ?_, ?_, fun p _ x hx => by simp at hx, fun _ _ => List.nodup_nil, fun p q x _ _ hx => by simp at hx⟩, ?_, ?_, ?_⟩⟩
  · intro k hk
    simp
    omega
  · rw [hc, Z1_at]; rfl
  · rw [hc, Z1_at]; rfl
  · intro p hp
    refine ⟨?_, ?_, trivial⟩
    · rw [hc, Z1_at, if_neg (by omega), if_neg (by omega), zl_lo _ (by omega)]; rfl
    · rw [hc, Z1_at, if_neg (by omega), if_neg (by omega), zl_lo _ (by omega)]; rfl
  · intro l hl
    rw [hc, Z1_at, if_neg (by omega), if_neg (by omega), zl_hi _ (by omega) (by omega)]; rfl
  · intro k hk o
    rw [frozen?_alloc_cells]
    unfold World.frozen?
    by_cases e : k = w.heap.size
    · subst e
      have := (MapKept.heap_alloc w (.map #[] 0)).1
      simp only [this]
    · have : (w.alloc (.map #[] 0)).heap[k]? = none := by
        rw [Array.getElem?_eq_none_iff, hsz]; omega
      simp only [this]
  · exact (MapOK.made w).kept hm
  · intro l hl
    refine ⟨by show 0 < _; omega, fun s hs => ?_⟩
    simp
  · exact ⟨List.nodup_nil, fun x hx => by simp at hx, fun x hx => by simp at hx, fun p _ x hx => by simp at hx, fun x hx => by simp at hx⟩
end Go.Proofs.YtogdekjklbbbiaaGreatDoor
