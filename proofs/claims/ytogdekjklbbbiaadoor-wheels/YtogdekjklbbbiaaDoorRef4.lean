import Derived.Test.YtogdekjklbbbiaaDoorRef3
set_option maxRecDepth 100000
namespace Go.Proofs.YtogdekjklbbbiaaDoor
open Go.ChangeShapes Go.WideShapes Go.ChangeAt Go.RowKit
set_option linter.unusedSimpArgs false
set_option linter.unusedVariables false

set_option maxHeartbeats 1000000 in
theorem next17_walk (b cap n : Nat) (a : Option Addr) (A : List (Nat × Nat)) (w : World) (hn : n = A.length) (hc : w.cell? ⟨b, 1, none⟩ = some (.slice a n cap)) (hp : PR w a A)
    (hf : Calls Tryd.prog 67 #[.pointer (some ⟨b, 0, none⟩)] w fun e w' => ∃ r, e = .returned (.int .i64 r) ∧ FirstIx A n r ∧ Ch w w' (fun _ _ => False)) :
    Calls Tryd.prog 36 #[.pointer (some ⟨b, 0, none⟩)] w fun e w' => ∃ v : Int, e = .returned (.int .i64 v) ∧ LeastOf A v ∧ Ch w w' (fun _ _ => False) := by
  have HF := hide hf; have HP := hide hp; have HN := hide hn
  clear hf hp hn
  go_enter Tryd.func36, Tryd.ntmps36
  go_wp2_with fail
  refine (unhide HF).mono ?_
  rintro e w1 ⟨r, rfl, hF, hC⟩
  have HC := hide hC
  have hcw : w1.cell? ⟨b, 1, none⟩ = some (.slice a n cap) := by rw [hC.cell _ _ (fun q => q)]; exact hc
  clear hC hc
  rcases hF with ⟨rfl, hn0⟩ | ⟨i, p, rfl, hin, hip, hlo, hle⟩
  · have HZ := hide hn0
    clear hn0
    go_wp2_with fail
    go_ret
    refine ⟨-1, rfl, .inl ⟨?_, rfl⟩, unhide HC⟩
    apply List.eq_nil_of_length_eq_zero
    rw [← unhide HN]; exact unhide HZ
  · obtain ⟨g, ha, h1, h2⟩ := unhide HP i p hip
    subst ha
    rw [← (unhide HC).cell _ _ (fun q => q)] at h2
    have hi0 : (0 : Int) ≤ (i : Int) := by omega
    have hneg : ¬ (i : Int) < 0 := by omega
    have hii : (i : Int) < (n : Int) := by omega
    have HL := hide hle; have HI := hide hip
    clear hlo hle hip h1
    go_wp2_with fail
    go_ret
    refine ⟨_, rfl, .inr ⟨p, List.mem_of_getElem? (unhide HI), rfl, fun q hq => ?_⟩, unhide HC⟩
    obtain ⟨j, hj⟩ := List.getElem?_of_mem hq
    have := (List.getElem?_eq_some_iff.1 hj).1
    have hN := unhide HN
    exact unhide HL j q (by omega) hj
theorem ra_next {w : World} {b : Nat} {O : Nat → Prop} {now : Nat} {A : List (Nat × Nat)} (h : RA w b O now A) (hl : A.length < 8796093022208) :
    Calls Tryd.prog 36 #[.pointer (some ⟨b, 0, none⟩)] w fun e w' => ∃ v : Int, e = .returned (.int .i64 v) ∧ LeastOf A v ∧ Ch w w' (fun _ _ => False) := by
  obtain ⟨v, h⟩ := h
  obtain ⟨a, cap, rfl, hp, _⟩ := row_pr h.row
  exact next17_walk b cap _ a A w rfl h.c1 hp (first_walk b cap a A _ w rfl (by omega) h.c1 hp)


structure AdvI (A : List (Nat × Nat)) (N : Nat) (D C : List (Nat × Nat)) : Prop where
  fib : ∀ t, D.filter (fun p => decide (p.2 = t)) ++ C.filter (fun p => decide (p.2 = t)) = A.filter (fun p => decide (p.2 = t))
  srt : D.Pairwise fun p q => p.2 ≤ q.2
  sep : ∀ d ∈ D, ∀ c ∈ C, d.2 ≤ c.2
  le : ∀ d ∈ D, d.2 ≤ N
  bey : beyond N C = beyond N A
  len : D.length + C.length = A.length
theorem AdvI.start (A : List (Nat × Nat)) (N : Nat) : AdvI A N [] A := ⟨fun t => rfl, List.Pairwise.nil, fun d hd => by simp at hd, fun d hd => by simp at hd, rfl, by simp⟩
theorem AdvI.step {A : List (Nat × Nat)} {N : Nat} {D C : List (Nat × Nat)} (h : AdvI A N D C) {i : Nat} {p : Nat × Nat} (hi : C[i]? = some p) (hlo : ∀ j q, j < i → C[j]? = some q → p.2 < q.2) (hle : ∀ j q, j < C.length → C[j]? = some q → p.2 ≤ q.2) (hN : p.2 ≤ N) : AdvI A N (D ++ [p]) (C.eraseIdx i) := by
  obtain ⟨hil, hip⟩ := List.getElem?_eq_some_iff.1 hi
  have hsplit : C = C.take i ++ p :: C.drop (i + 1) := by
    rw [← hip, List.getElem_cons_drop, List.take_append_drop]
  have her : C.eraseIdx i = C.take i ++ C.drop (i + 1) := List.eraseIdx_eq_take_drop_succ ..
  have hlo' : ∀ q ∈ C.take i, p.2 < q.2 := by
    intro q hq
    obtain ⟨j, hj⟩ := List.getElem?_of_mem hq
    have hji := (List.getElem?_eq_some_iff.1 hj).1
    rw [List.length_take] at hji
    rw [List.getElem?_take_of_lt (by omega)] at hj
    exact hlo j q (by omega) hj
  have hle' : ∀ q ∈ C, p.2 ≤ q.2 := by
    intro q hq
    obtain ⟨j, hj⟩ := List.getElem?_of_mem hq
    exact hle j q (List.getElem?_eq_some_iff.1 hj).1 hj
  have hsub : ∀ q ∈ C.eraseIdx i, q ∈ C := fun q hq => List.mem_of_mem_eraseIdx hq
  have hpC : p ∈ C := List.mem_of_getElem? hi
  refine ⟨fun t => ?_, ?_, ?_, ?_, ?_, ?_⟩
  · rw [← h.fib t, List.filter_append, List.append_assoc]
    congr 1
    rw [her]
    conv => rhs; rw [hsplit]
    rw [List.filter_append, List.filter_append, List.filter_cons]
    by_cases e : p.2 = t
    · have hn : (C.take i).filter (fun p => decide (p.2 = t)) = [] := by
        rw [List.filter_eq_nil_iff]
        intro q hq
        have := hlo' q hq
        simp
        omega
      rw [hn, if_pos (by simp [e])]
      simp [e]
    · rw [if_neg (by simp [e])]
      simp [e]
  · rw [List.pairwise_append]
    exact ⟨h.srt, by simp, fun d hd q hq => by rw [List.mem_singleton.1 hq]; exact h.sep d hd p hpC⟩
  · intro d hd c hc
    rcases List.mem_append.1 hd with q | q
    · exact h.sep d q c (hsub c hc)
    · rw [List.mem_singleton.1 q]; exact hle' c (hsub c hc)
  · intro d hd
    rcases List.mem_append.1 hd with q | q
    · exact h.le d q
    · rw [List.mem_singleton.1 q]; exact hN
  · rw [← h.bey, her]
    conv => rhs; rw [hsplit]
    unfold beyond
    rw [List.filter_append, List.filter_append, List.filter_cons, if_neg (by simp; omega)]
  · have := h.len
    rw [List.length_append, List.length_eraseIdx_of_lt hil]
    simp only [List.length_singleton]
    omega
theorem AdvI.done {A : List (Nat × Nat)} {N : Nat} {D C : List (Nat × Nat)} (h : AdvI A N D C) (hC : ∀ c ∈ C, N < c.2) : SortOf (upTo N A) D ∧ C = beyond N A := by
  have hCb : beyond N C = C := by
    unfold beyond
    exact List.filter_eq_self.2 fun c hc => by simpa using hC c hc
  refine ⟨⟨h.srt, fun t => ?_⟩, by rw [← h.bey, hCb]⟩
  have hf := h.fib t
  unfold upTo
  rw [List.filter_filter]
  by_cases q : t ≤ N
  · have e1 : C.filter (fun p => decide (p.2 = t)) = [] := by
      rw [List.filter_eq_nil_iff]
      intro c hc
      have := hC c hc
      simp
      omega
    rw [e1, List.append_nil] at hf
    rw [hf]
    apply List.filter_congr
    intro p _
    by_cases e : p.2 = t
    · simp [e, q]
    · simp [e]
  · have e1 : D.filter (fun p => decide (p.2 = t)) = [] := by
      rw [List.filter_eq_nil_iff]
      intro d hd
      have := h.le d hd
      simp
      omega
    rw [e1]
    symm
    rw [List.filter_eq_nil_iff]
    intro p _
    simp
    omega

end Go.Proofs.YtogdekjklbbbiaaDoor
