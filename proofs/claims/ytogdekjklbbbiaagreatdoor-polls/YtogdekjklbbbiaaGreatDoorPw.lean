import Derived.Test.YtogdekjklbbbiaaGreatDoorPv
import Derived.Test.YtogdekjklbbbiaaGreatDoorZ10
set_option maxRecDepth 100000
namespace Go.Proofs.YtogdekjklbbbiaaGreatDoor
open Go.ChangeShapes Go.WideShapes Go.ChangeAt Go.RowKit
set_option linter.unusedSimpArgs false
set_option linter.unusedVariables false

theorem Gr.fr {w w' : World} {v v' : Value} (h : Gr w w' v v') : Fr w w' (fun k => v.ownBlock = some k) := by
  rcases h with ⟨_, q⟩ | ⟨_, q⟩
  · exact World.grownBy.fr q
  · exact (World.grownBy.fr q).weak fun k _ e => by cases e
theorem Gr.new {w w' : World} {v v' : Value} (h : Gr w w' v v') {g : Nat} (hg : v'.ownBlock = some g) : v.ownBlock = some g ∨ g = w.heap.size := by
  rcases h with ⟨q, _⟩ | ⟨q, _⟩
  · exact .inl (by rw [← q]; exact hg)
  · right; rw [q] at hg; injection hg with hg; exact hg.symm
/-- What waits has turned. -/
theorem PM.pendG2 {w w' : World} {b : Nat} {y : Lay} {s : Pace.St} {nw : Nat} {P P' : List Pace.Cmd} {c c' : Cn} {pv' : Value} (h : PM w b y s nw P c) (hf : Fr w w' (fun k => k = b ∨ y.pv.ownBlock = some k)) (hfz : ∀ o, w'.frozen? ⟨b, o, none⟩ = false)
    (hPB : PB w' b s.q s.clock nw y.fv pv' y.wb c') (hrp : w'.ownsRow 0 161 5 pv' P'.length (cmdsC y.B P')) (hpv : ∀ g, pv'.ownBlock = some g → y.pv.ownBlock = some g ∨ w.heap.size ≤ g) :
    ∃ y', PM w' b y' s nw P' c' ∧ Step w w' y y' ∧ y'.B = y.B ∧ y'.pv = pv' := by
  have hk : ∀ k t, y.tag k = t → t ≠ .none → t ≠ .self → t ≠ .rowP → w'.heap[k]? = w.heap[k]? := fun k t e h1 h2 h3 => hf.blk k (h.lt k (h.own_of e h1)) fun q => by
    rcases q with q | q
    · exact h2 (by rw [← e, q]; exact h.tb)
    · exact h3 (by rw [← e]; exact h.tp k q)
  have ht : ∀ k, k < w.heap.size → y.tag k ≠ .rowP → pv'.ownBlock ≠ some k := fun k hkl hkt e => by
    rcases hpv k e with q | q
    · exact hkt (h.tp k q)
    · omega
  have hto : ∀ k t, y.tag k = t → t ≠ .none → t ≠ .rowP → pv'.ownBlock ≠ some k := fun k t e h1 h2 => ht k (h.lt k (h.own_of e h1)) (by rw [e]; exact h2)
  refine ⟨{ y with tag := fun k => if pv'.ownBlock = some k then .rowP else y.tag k, pv := pv' }, ⟨?_, ?_, ?_, hfz, hPB, ?_, ?_, hrp, ?_, ?_, ?_, h.wn, ?_, h.fc, ?_, ?_, h.ak⟩, ⟨?_, ?_⟩, rfl, rfl⟩
  · show (if _ then _ else _) = _
    rw [if_neg (hto b _ h.tb (by simp) (by simp))]; exact h.tb
  · show (if _ then _ else _) = _
    rw [if_neg (ht 0 (Nat.lt_of_le_of_lt (Nat.zero_le _) (h.lt b h.ow)) (by rw [h.t0]; simp))]; exact h.t0
  · intro k hO
    have hO' : (if pv'.ownBlock = some k then Tag.rowP else y.tag k) ≠ .none := hO
    by_cases q : pv'.ownBlock = some k
    · exact (hrp.lt k q).2
    · rw [if_neg q] at hO'
      exact Nat.lt_of_lt_of_le (h.lt k hO') hf.size
  · exact row_kept h.rf fun g hg => hk g _ (h.tf g hg) (by simp) (by simp) (by simp)
  · intro g hg
    show (if _ then _ else _) = _
    rw [if_neg (hto g _ (h.tf g hg) (by simp) (by simp))]; exact h.tf g hg
  · intro g hg
    show (if _ then _ else _) = _
    exact if_pos hg
  · exact h.wa.kept hf fun k hO q => by
      have := h.two k hO
      rcases q with q | q
      · rw [q, h.tb] at this; cases this
      · rw [h.tp k q] at this; cases this
  · intro k hO
    show (if _ then _ else _) = _
    rw [if_neg (hto k _ (h.two k hO) (by simp) (by simp))]; exact h.two k hO
  · exact fun f hfl => (h.fl f hfl).kept (hk _ _ (h.tl f hfl) (by simp) (by simp) (by simp)) fun g hg => hk g _ (h.tk f hfl g hg) (by simp) (by simp) (by simp)
  · intro f hfl
    show (if _ then _ else _) = _
    rw [if_neg (hto _ _ (h.tl f hfl) (by simp) (by simp))]; exact h.tl f hfl
  · intro f hfl g hg
    show (if _ then _ else _) = _
    rw [if_neg (hto g _ (h.tk f hfl g hg) (by simp) (by simp))]; exact h.tk f hfl g hg
  · exact hf.weak fun k _ q => by
      rcases q with q | q
      · rw [q]; exact h.ow
      · exact h.own_of (h.tp k q) (by simp)
  · intro k hk' e
    show (if _ then _ else _) = _
    rw [if_neg (ht k hk' (by rw [e]; simp))]; exact e
theorem PM.pendG {w w' : World} {b : Nat} {y : Lay} {s : Pace.St} {nw : Nat} {P P' : List Pace.Cmd} {c c' : Cn} {pv' : Value} (h : PM w b y s nw P c) (hf : Fr w w' (fun k => k = b ∨ y.pv.ownBlock = some k)) (hfz : ∀ o, w'.frozen? ⟨b, o, none⟩ = false)
    (hPB : PB w' b s.q s.clock nw y.fv pv' y.wb c') (hrp : w'.ownsRow 0 161 5 pv' P'.length (cmdsC y.B P')) (hpv : ∀ g, pv'.ownBlock = some g → y.pv.ownBlock = some g ∨ w.heap.size ≤ g) :
    ∃ y', PM w' b y' s nw P' c' ∧ Step w w' y y' ∧ y'.B = y.B := by
  obtain ⟨y', h1, h2, h3, _⟩ := h.pendG2 hf hfz hPB hrp hpv
  exact ⟨y', h1, h2, h3⟩
theorem cmdsC_snoc (B : Nat → Nat) (P : List Pace.Cmd) (cm : Pace.Cmd) : cmdsC B (P ++ [cm]) = cmdsC B P ++ cmdC B cm := by simp [cmdsC]
theorem pv_ne_b {w : World} {b : Nat} {y : Lay} {s : Pace.St} {nw : Nat} {P : List Pace.Cmd} {c : Cn} (h : PM w b y s nw P c) : y.pv.ownBlock ≠ some b := fun e => by have := h.tp b e; rw [h.tb] at this; cases this
/-- A command is put behind the others. -/
theorem pm_push {w w4 : World} {b : Nat} {y : Lay} {s : Pace.St} {nw : Nat} {P : List Pace.Cmd} {c : Cn} (h : PM w b y s nw P c) (cm : Pace.Cmd) {o : Obj} {pv' : Value} (hr : w4.ownsRow 0 161 5 pv' (P.length + 1) (cmdsC y.B P ++ cmdC y.B cm)) (hg : Gr (w.alloc o) w4 y.pv pv') :
    ∃ y', PM (w4.setCell ⟨b, 4, none⟩ pv') b y' s nw (P ++ [cm]) c ∧ Step w (w4.setCell ⟨b, 4, none⟩ pv') y y' ∧ y'.B = y.B := by
  have hfr0 : Fr w (w.alloc o) (fun k => k = b ∨ y.pv.ownBlock = some k) := (Fr.refl _ _).alloc o
  have hb : b < w.heap.size := h.lt b h.ow
  have hb4 : w4.heap[b]? = w.heap[b]? := by
    refine (hg.fr.blk b (by simp; omega) (pv_ne_b h)).trans ?_
    exact Below.heap_alloc _ _ _ (by omega)
  have hPB4 : PB w4 b s.q s.clock nw y.fv y.pv y.wb c := h.pb.kept hb4
  have hfr : Fr w (w4.setCell ⟨b, 4, none⟩ pv') (fun k => k = b ∨ y.pv.ownBlock = some k) := (hfr0.trans hg.fr fun k _ q => .inr q).trans (ch1 w4 b 4 pv') fun k _ q => .inl q
  have hsz : (w.alloc o).heap.size = w.heap.size + 1 := by simp
  have hnew : ∀ g, pv'.ownBlock = some g → y.pv.ownBlock = some g ∨ w.heap.size ≤ g := fun g hgg => by
    rcases hg.new hgg with q | q
    · exact .inl q
    · exact .inr (by omega)
  refine h.pendG (P' := P ++ [cm]) hfr (fun o' => by rw [World.frozen?_setCell, frozen_of hb4]; exact h.fz o') (hPB4.pend pv') ?_ hnew
  rw [List.length_append, List.length_singleton, cmdsC_snoc]
  refine row_kept0 hr fun g hgg => Below.heap_setCell _ _ _ _ fun e => ?_
  have e' : g = b := e
  rcases hnew g hgg with q | q
  · rw [e'] at q; exact pv_ne_b h q
  · omega
theorem flat_congr {α β : Type} {u v : α → List β} {l : List α} (h : ∀ x ∈ l, u x = v x) : l.flatMap u = l.flatMap v := by
  induction l with
  | nil => rfl
  | cons x l ih => rw [List.flatMap_cons, List.flatMap_cons, h x (List.mem_cons_self ..), ih fun z hz => h z (List.mem_cons_of_mem _ hz)]
/-- A flow is put behind the others. -/
theorem PM.addFl {w w' : World} {b : Nat} {y : Lay} {s : Pace.St} {nw : Nat} {P : List Pace.Cmd} {c : Cn} {fv' : Value} {F : Nat} (h : PM w b y s nw P c) (hle : ∀ x ∈ s.fl, x.num ≤ nw) (hA : ∀ a ∈ s.A, ∃ x ∈ s.fl, x.num = a.num) (hP : ∀ cm ∈ P, ∃ x ∈ s.fl, x.num = cm.flow) (hf : Fr w w' (fun k => k = b ∨ y.fv.ownBlock = some k)) (hfz : ∀ o, w'.frozen? ⟨b, o, none⟩ = false)
    (hPB : PB w' b s.q s.clock (nw + 1) fv' y.pv y.wb c) (hrf : w'.ownsRow 0 159 1 fv' (s.fl.length + 1) ((s.fl.map fun f => Value.pointer (some ⟨y.B f.num, 0, none⟩)) ++ [.pointer (some ⟨F, 0, none⟩)])) (hfv : ∀ g, fv'.ownBlock = some g → y.fv.ownBlock = some g ∨ w.heap.size < g) (hF : F = w.heap.size) (hF' : F < w'.heap.size)
    (hFA : FA w' F ⟨nw + 1, 0, 0, 0, [], 0⟩ 0 0 0 (.slice none 0 0)) :
    ∃ y', PM w' b y' { s with fl := s.fl ++ [⟨nw + 1, 0, 0, 0, [], 0⟩] } (nw + 1) P c ∧ Step w w' y y' ∧ y'.B (nw + 1) = F ∧ (∀ k, k ≤ nw → y'.B k = y.B k) ∧ y'.pv = y.pv := by
  have hk : ∀ k t, y.tag k = t → t ≠ .none → t ≠ .self → t ≠ .rowF → w'.heap[k]? = w.heap[k]? := fun k t e h1 h2 h3 => hf.blk k (h.lt k (h.own_of e h1)) fun q => by
    rcases q with q | q
    · exact h2 (by rw [← e, q]; exact h.tb)
    · exact h3 (by rw [← e]; exact h.tf k q)
  have ht : ∀ k, k < w.heap.size → y.tag k ≠ .rowF → fv'.ownBlock ≠ some k := fun k hkl hkt e => by
    rcases hfv k e with q | q
    · exact hkt (h.tf k q)
    · omega
  have hkeep : ∀ k t, y.tag k = t → t ≠ .none → t ≠ .rowF → (if k = F then Tag.flow (nw + 1) else if fv'.ownBlock = some k then .rowF else y.tag k) = t := fun k t e h1 h2 => by
    have hlt := h.lt k (h.own_of e h1)
    rw [if_neg (by omega), if_neg (ht k hlt (by rw [e]; exact h2))]; exact e
  have hne : ∀ f ∈ s.fl, f.num ≠ nw + 1 := fun f hf' => by have := hle f hf'; omega
  have hmem : ∀ f ∈ s.fl ++ [(⟨nw + 1, 0, 0, 0, [], 0⟩ : Pace.Fl)], f ∈ s.fl ∨ f = ⟨nw + 1, 0, 0, 0, [], 0⟩ := fun f hf' => by
    rcases List.mem_append.1 hf' with q | q
    · exact .inl q
    · exact .inr (List.mem_singleton.1 q)
  refine ⟨{ y with tag := fun k => if k = F then .flow (nw + 1) else if fv'.ownBlock = some k then .rowF else y.tag k, B := upd y.B (nw + 1) F, V := upd y.V (nw + 1) (.slice none 0 0), cr := upd y.cr (nw + 1) 0, rk := upd y.rk (nw + 1) 0, bt := upd y.bt (nw + 1) 0, fv := fv' }, ⟨?_, ?_, ?_, hfz, hPB, ?_, ?_, ?_, ?_, ?_, ?_, h.wn, ?_, ?_, ?_, ?_, ?_⟩, ⟨?_, ?_⟩, upd_same _ _ _, fun k hk' => upd_other _ _ (by omega), rfl⟩
  · exact hkeep b _ h.tb (by simp) (by simp)
  · have hb := h.lt b h.ow
    show (if _ then _ else _) = _
    rw [if_neg (by omega), if_neg (ht 0 (by omega) (by rw [h.t0]; simp))]; exact h.t0
  · intro k hO
    have hO' : (if k = F then Tag.flow (nw + 1) else if fv'.ownBlock = some k then .rowF else y.tag k) ≠ .none := hO
    by_cases q0 : k = F
    · omega
    · rw [if_neg q0] at hO'
      by_cases q : fv'.ownBlock = some k
      · exact (hrf.lt k q).2
      · rw [if_neg q] at hO'
        exact Nat.lt_of_lt_of_le (h.lt k hO') hf.size
  · show w'.ownsRow 0 159 1 fv' (s.fl ++ [_]).length ((s.fl ++ [_]).map _)
    rw [List.length_append, List.length_singleton, List.map_append]
    have e1 : s.fl.map (fun f => Value.pointer (some ⟨upd y.B (nw + 1) F f.num, 0, none⟩)) = s.fl.map fun f => Value.pointer (some ⟨y.B f.num, 0, none⟩) := List.map_congr_left fun f hf' => by rw [upd_other _ _ (hne f hf')]
    rw [e1]
    simp only [List.map_cons, List.map_nil, upd_same]
    exact hrf
  · intro g hg
    have hg' : fv'.ownBlock = some g := hg
    show (if _ then _ else _) = _
    rw [if_neg, if_pos hg']
    rcases hfv g hg' with q | q
    · have := h.lt g (h.own_of (h.tf g q) (by simp)); omega
    · omega
  · show w'.ownsRow 0 161 5 y.pv P.length (cmdsC (upd y.B (nw + 1) F) P)
    have e1 : cmdsC (upd y.B (nw + 1) F) P = cmdsC y.B P := by
      unfold cmdsC
      have : ∀ cm ∈ P, cmdC (upd y.B (nw + 1) F) cm = cmdC y.B cm := fun cm hcm => by
        obtain ⟨x, hx, e⟩ := hP cm hcm
        rw [cmdC_eq, cmdC_eq, upd_other _ _ (by rw [← e]; exact hne x hx)]
      exact flat_congr this
    rw [e1]
    exact row_kept h.rp fun g hg => hk g _ (h.tp g hg) (by simp) (by simp) (by simp)
  · exact fun g hg => hkeep g _ (h.tp g hg) (by simp) (by simp)
  · exact h.wa.kept hf fun k hO q => by
      have := h.two k hO
      rcases q with q | q
      · rw [q, h.tb] at this; cases this
      · rw [h.tf k q] at this; cases this
  · exact fun k hO => hkeep k _ (h.two k hO) (by simp) (by simp)
  · intro f hf'
    rcases hmem f hf' with q | rfl
    · simp only [upd_other _ _ (hne f q)]
      exact (h.fl f q).kept (hk _ _ (h.tl f q) (by simp) (by simp) (by simp)) fun g hg => hk g _ (h.tk f q g hg) (by simp) (by simp) (by simp)
    · simp only [upd_same]; exact hFA
  · intro f hf'
    rcases hmem f hf' with q | rfl
    · simp only [upd_other _ _ (hne f q)]
      exact h.fc f q
    · simp only [upd_same]
      exact ⟨Nat.zero_le _, Nat.zero_le _, by simp [Pace.acc]⟩
  · intro f hf'
    rcases hmem f hf' with q | rfl
    · have := hkeep _ _ (h.tl f q) (by simp) (by simp)
      have e : upd y.B (nw + 1) F f.num = y.B f.num := upd_other _ _ (hne f q)
      rw [← e] at this
      exact this
    · show (if upd y.B (nw + 1) F (nw + 1) = F then _ else _) = _
      rw [upd_same, if_pos rfl]
  · intro f hf' g hg
    rcases hmem f hf' with q | rfl
    · simp only [upd_other _ _ (hne f q)] at hg
      exact hkeep g _ (h.tk f q g hg) (by simp) (by simp)
    · simp only [upd_same] at hg
      cases hg
  · intro a ha
    obtain ⟨x, hx, e⟩ := hA a ha
    show upd y.bt (nw + 1) 0 a.num = a.k
    rw [upd_other _ _ (by rw [← e]; exact hne x hx)]
    exact h.ak a ha
  · exact hf.weak fun k _ q => by
      rcases q with q | q
      · rw [q]; exact h.ow
      · exact h.own_of (h.tf k q) (by simp)
  · intro k hk' e
    show (if _ then _ else _) = _
    rw [if_neg (by omega), if_neg (ht k hk' (by rw [e]; simp))]; exact e
/-- Add. -/
theorem pa_add {w : World} {b : Nat} {y : Lay} {p : Pace.PS} {c : Cn} (h : PA w b y p c) (hnw : p.newest < 8000000000000000000) (hfew : p.st.fl.length < 8) (r bu : Int) (hal : Pace.allowed r bu) :
    Calls Tryz.prog 27 #[.pointer (some ⟨b, 0, none⟩), .int .i64 r, .int .i64 bu] w fun e w' => e = .returned (.tuple #[.int .i64 ((p.newest : Int) + 1), .int .i64 0]) ∧ ∃ y', PA w' b y' (p.add r.toNat bu.toNat) c ∧ Stp w w' y y' := by
  obtain ⟨P, hM, hI, hS, hSh⟩ := h
  have h80 : P.length ≤ 80 := short80 hS.inv.pi hSh hI.few
  obtain ⟨a1, a2, a3, a4⟩ := hal
  have hb : b < w.heap.size := hM.lt b hM.ow
  have hfb : y.fv.ownBlock ≠ some b := fun e => by have := hM.tf b e; rw [hM.tb] at this; cases this
  refine (add_good b p.st.fl.length P.length (p.newest : Int) r bu y.fv y.pv _ _ w hfew (by omega) (by omega) hM.pb.c2 hM.pb.c3 hM.pb.c4 hM.pb.c15 hM.fz ⟨a1, a2, a3, a4⟩ hM.rf hM.rp hfb (pv_ne_b hM) (fun g hg e => by have h1 := hM.tf g hg; have h2 := hM.tp g e; rw [h1] at h2; cases h2)).mono ?_
  rintro e w' ⟨rfl, fv', pv', w2, w4, hrf, hG1, hrp, hG2, rfl⟩
  refine ⟨rfl, ?_⟩
  have hs1 : (((w.setCell ⟨b, 2, none⟩ (.int .i64 ((p.newest : Int) + 1))).alloc (newFl ((p.newest : Int) + 1))).alloc (.cells #[.pointer (some ⟨w.heap.size, 0, none⟩)] 159)).heap.size = w.heap.size + 2 := by simp
  have hfr1 : Fr w (((w.setCell ⟨b, 2, none⟩ (.int .i64 ((p.newest : Int) + 1))).alloc (newFl ((p.newest : Int) + 1))).alloc (.cells #[.pointer (some ⟨w.heap.size, 0, none⟩)] 159)) (fun k => k = b ∨ y.fv.ownBlock = some k) := (((ch1 w b 2 _).weak fun k _ q => .inl q).alloc _).alloc _
  have hsz2 := hG1.fr.size
  have hfr2 : Fr w (w2.setCell ⟨b, 3, none⟩ fv') (fun k => k = b ∨ y.fv.ownBlock = some k) := (hfr1.trans hG1.fr fun k _ q => .inr q).trans (ch1 w2 b 3 fv') fun k _ q => .inl q
  have hb2 : w2.heap[b]? = (w.setCell ⟨b, 2, none⟩ (.int .i64 ((p.newest : Int) + 1))).heap[b]? := by
    refine (hG1.fr.blk b (by omega) hfb).trans ?_
    rw [Below.heap_alloc _ _ _ (by simp; omega), Below.heap_alloc _ _ _ (by simp; omega)]
  have hcb2 : ∀ o, w2.cell? ⟨b, o, none⟩ = (w.setCell ⟨b, 2, none⟩ (.int .i64 ((p.newest : Int) + 1))).cell? ⟨b, o, none⟩ := fun o => World.cell?_of_block (w := w.setCell ⟨b, 2, none⟩ (.int .i64 ((p.newest : Int) + 1))) (a := ⟨b, o, none⟩) hb2
  have hch : Ch w (w.setCell ⟨b, 2, none⟩ (.int .i64 ((p.newest : Int) + 1))) (fun a o => a = b ∧ o = 2) := (Ch.refl w _).setCell ⟨rfl, rfl⟩ _
  have hch3 : Ch w2 (w2.setCell ⟨b, 3, none⟩ fv') (fun a o => a = b ∧ o = 3) := (Ch.refl w2 _).setCell ⟨rfl, rfl⟩ _
  have hcc : ∀ o, o ≠ 2 → o ≠ 3 → (w2.setCell ⟨b, 3, none⟩ fv').cell? ⟨b, o, none⟩ = w.cell? ⟨b, o, none⟩ := fun o o2 o3 => (hch3.cell b o fun q => o3 q.2).trans ((hcb2 o).trans (hch.cell b o fun q => o2 q.2))
  have hPB : PB (w2.setCell ⟨b, 3, none⟩ fv') b p.st.q p.st.clock (p.newest + 1) fv' y.pv y.wb c := by
    have h := hM.pb
    refine ⟨by rw [hcc _ (by omega) (by omega)]; exact h.c0, by rw [hcc _ (by omega) (by omega)]; exact h.c1, ?_, ?_, by rw [hcc _ (by omega) (by omega)]; exact h.c4, by rw [hcc _ (by omega) (by omega)]; exact h.c5, by rw [hcc _ (by omega) (by omega)]; exact h.c6, by rw [hcc _ (by omega) (by omega)]; exact h.c7, by rw [hcc _ (by omega) (by omega)]; exact h.c8, by rw [hcc _ (by omega) (by omega)]; exact h.c9, by rw [hcc _ (by omega) (by omega)]; exact h.c10, by rw [hcc _ (by omega) (by omega)]; exact h.c11, by rw [hcc _ (by omega) (by omega)]; exact h.c12, by rw [hcc _ (by omega) (by omega)]; exact h.c13, by rw [hcc _ (by omega) (by omega)]; exact h.c14, by rw [hcc _ (by omega) (by omega)]; exact h.c15⟩
    · rw [hch3.cell b 2 (by omega), hcb2 2, World.cell?_setCell_same' _ _ _ (by rw [h.c2]; rfl)]
      simp
    · refine World.cell?_setCell_same' _ _ _ ?_
      rw [hcb2 3, hch.cell b 3 (by omega), h.c3]; rfl
  have hF2 : (w2.setCell ⟨b, 3, none⟩ fv').heap[w.heap.size]? = some (newFl ((p.newest : Int) + 1)) := by
    have hfn : y.fv.ownBlock ≠ some w.heap.size := fun e => by have := (hM.rf.lt _ e).2; omega
    rw [Below.heap_setCell _ _ _ _ (by show w.heap.size ≠ b; omega), hG1.fr.blk w.heap.size (by omega) hfn, Below.heap_alloc _ _ _ (by simp)]
    have := heap_alloc_new (w.setCell ⟨b, 2, none⟩ (.int .i64 ((p.newest : Int) + 1))) (newFl ((p.newest : Int) + 1))
    simpa using this
  have hnewf : ∀ g, fv'.ownBlock = some g → y.fv.ownBlock = some g ∨ w.heap.size < g := fun g hg => by
    rcases hG1.new hg with q | q
    · exact .inl q
    · exact .inr (by omega)
  have hFA : FA (w2.setCell ⟨b, 3, none⟩ fv') w.heap.size ⟨p.newest + 1, 0, 0, 0, [], 0⟩ 0 0 0 (.slice none 0 0) := by
    have hc := fun o => heap_cell hF2 o
    refine ⟨by rw [hc]; simp, by rw [hc]; simp, by rw [hc]; simp, by rw [hc]; simp, by rw [hc]; simp, by rw [hc]; simp, by rw [hc]; simp, by rw [hc]; simp, World.ownsRow_nil _ _ _ _, fun o => ?_⟩
    simp [World.frozen?, hF2, newFl]
  obtain ⟨y1, hP1, hs1', e1, e2, e3⟩ := hM.addFl (fun x hx => (hI.le x hx).2) (fun a ha => by
      obtain ⟨x, hx, _⟩ := hI.pi.wf.A a ha
      exact ⟨x, (Pace.look_some hx).1, (Pace.look_some hx).2⟩) hS.inv.pi.live hfr2 (fun o => by rw [World.frozen?_setCell, frozen_of hb2, World.frozen?_setCell]; exact hM.fz o) hPB (row_kept0 hrf fun g hg => Below.heap_setCell _ _ _ _ fun e => by
      have e' : g = b := e
      rcases hnewf g hg with q | q
      · rw [e'] at q; exact hfb q
      · omega) hnewf rfl (by simp; omega) hFA
  have hcm : cmdsC y1.B P = cmdsC y.B P := flat_congr fun cm hcm => by
    obtain ⟨x, hx, e⟩ := hS.inv.pi.live cm hcm
    rw [cmdC_eq, cmdC_eq, e2 cm.flow (by rw [← e]; exact (hI.le x hx).2)]
  obtain ⟨y2, hP2, hs2, _⟩ := pm_push hP1 (.add (p.newest + 1) r.toNat bu.toNat) (pv' := pv') (by
      rw [hcm]
      have e4 : cmdC y1.B (.add (p.newest + 1) r.toNat bu.toNat) = [.int .i64 0, .pointer (some ⟨w.heap.size, 0, none⟩), .int .i64 r, .int .i64 bu, .int .i64 0] := by
        show [Value.int .i64 0, .pointer (some ⟨y1.B (p.newest + 1), 0, none⟩), .int .i64 ((r.toNat : Nat) : Int), .int .i64 ((bu.toNat : Nat) : Int), .int .i64 0] = _
        rw [e1, show ((r.toNat : Nat) : Int) = r by omega, show ((bu.toNat : Nat) : Int) = bu by omega]
      rw [e4]
      exact hrp) (by rw [e3]; exact hG2)
  exact ⟨y2, ⟨P ++ [Pace.Cmd.add (p.newest + 1) r.toNat bu.toNat], hP2, hI.add (by omega) (by omega) hfew, hS.add (by omega) (by omega) hfew, hSh.snoc fun _ => rfl⟩, (hs1'.trans hs2).stp⟩
end Go.Proofs.YtogdekjklbbbiaaGreatDoor
