import Derived.Test.YtogdekjklbbbiaaDoorRef1
set_option maxRecDepth 100000
namespace Go.Proofs.YtogdekjklbbbiaaDoor
open Go.ChangeShapes Go.WideShapes Go.ChangeAt Go.RowKit
set_option linter.unusedSimpArgs false
set_option linter.unusedVariables false

theorem info67 : (Tryd.prog.info? 150).map (fun i => (i.zero, i.size, i.bytes)) = some (some (.agg #[.int .i64 0, .int .i64 0]), 2, 16) := by kernel_rfl
def flat (A : List (Nat × Nat)) : List Value := A.flatMap fun p => [Value.int .i64 (p.1 : Int), Value.int .i64 (p.2 : Int)]
theorem flat_append (A B : List (Nat × Nat)) : flat (A ++ B) = flat A ++ flat B := by simp [flat]
theorem flat_len (A : List (Nat × Nat)) : (flat A).length = A.length * 2 := by
  induction A with
  | nil => rfl
  | cons p r ih => simp only [flat, List.flatMap_cons, List.length_append] at ih ⊢; rw [ih]; simp; omega
theorem flat_at : ∀ (A : List (Nat × Nat)) (i : Nat) (p : Nat × Nat), A[i]? = some p → (flat A)[i * 2]? = some (.int .i64 (p.1 : Int)) ∧ (flat A)[i * 2 + 1]? = some (.int .i64 (p.2 : Int))
  | q :: r, 0, p, h => by simp at h; subst h; simp [flat]
  | q :: r, i + 1, p, h => by
    have := flat_at r i p (by simpa using h)
    have e : flat (q :: r) = Value.int .i64 (q.1 : Int) :: Value.int .i64 (q.2 : Int) :: flat r := by simp [flat]
    rw [e, show (i + 1) * 2 = i * 2 + 1 + 1 by omega, show i * 2 + 1 + 1 + 1 = (i * 2 + 1) + 1 + 1 by omega]
    simpa using this

theorem cell_two_new (w : World) (x y : Value) (t : TypeId) : ∀ j u, [x, y][j]? = some u → (w.alloc (.cells #[x, y] t)).cell? ((⟨w.heap.size, 0, none⟩ : Addr).add j) = some u := by
  intro j u hu
  match j with
  | 0 => simp at hu; subst hu; rw [show (⟨w.heap.size, 0, none⟩ : Addr).add 0 = ⟨w.heap.size, 0, none⟩ from rfl, cellN]; rfl
  | 1 => simp at hu; subst hu; rw [show (⟨w.heap.size, 0, none⟩ : Addr).add 1 = ⟨w.heap.size, 1, none⟩ from rfl, cellN]; rfl
  | j + 2 => simp at hu

def rem (A : List (Nat × Nat)) (i k : Nat) : List (Nat × Nat) := (A.take k).eraseIdx i
theorem rem_step {A : List (Nat × Nat)} {i k : Nat} {p : Nat × Nat} (h : A[k]? = some p) : rem A i (k + 1) = if k = i then rem A i k else rem A i k ++ [p] := by
  unfold rem
  have hk := (List.getElem?_eq_some_iff.1 h).1
  have hl : (A.take k).length = k := by simp; omega
  rw [List.take_add_one, h]
  simp only [Option.toList_some]
  rw [List.eraseIdx_append]
  by_cases e : i < k
  · rw [if_pos (by omega), if_neg (by omega)]
  · rw [if_neg (by omega)]
    rw [List.eraseIdx_of_length_le (l := A.take k) (by omega)]
    by_cases e' : k = i
    · rw [if_pos e', hl, e']; simp
    · rw [if_neg e', hl]
      congr 1
      exact List.eraseIdx_of_length_le (by simp; omega)

set_option maxHeartbeats 1000000 in
theorem out_walk (b cap i n : Nat) (a : Option Addr) (A : List (Nat × Nat)) (w : World) (hn : n = A.length) (hb : n < 8796093022208) (hbs : b < w.heap.size) (hc : w.cell? ⟨b, 1, none⟩ = some (.slice a n cap)) (hf : w.frozen? ⟨b, 1, none⟩ = false) (hp : PR w a A) (hg : ∀ g, a = some ⟨g, 0, none⟩ → g < w.heap.size) :
    Calls Tryd.prog 66 #[.pointer (some ⟨b, 0, none⟩), .int .i64 (i : Int)] w fun e w' => e = .returned (.tuple #[]) ∧ ∃ v wr, w' = wr.setCell ⟨b, 1, none⟩ v ∧ Below w.heap.size w wr ∧ wr.ownsRow w.heap.size 150 2 v (A.eraseIdx i).length (flat (A.eraseIdx i)) := by
  have HP := hide hp; have HN := hide hn; have HGg := hide hg
  clear hp hn hg
  obtain ⟨i0, hj, hz0, hz1, hz2⟩ := info_parts info67
  go_enter Tryd.func66, Tryd.ntmps66
  go_wp2
  go_loopg [4, 5] n (fun gk vl vk wr => ∃ k : Nat, vk = .int .i64 (k : Int) ∧ gk = n - k ∧ k ≤ n ∧ (rem A i k).length ≤ k ∧ Below w.heap.size w wr ∧ wr.ownsRow w.heap.size 150 2 vl (rem A i k).length (flat (rem A i k)))
  case atStart => exact ⟨0, rfl, rfl, Nat.zero_le _, by simp [rem], Below.refl _ _, by simpa [rem, flat] using World.ownsRow_nil w w.heap.size 150 2⟩
  case round =>
    obtain ⟨k, hu, hgk, hkn, hrl, hB, hrow⟩ := hrel
    rw [hu]
    clear hu
    have hcw : wr.cell? ⟨b, 1, none⟩ = some (.slice a n cap) := (hB.cell (p := ⟨b, 1, none⟩) hbs).trans hc
    have hfw : wr.frozen? ⟨b, 1, none⟩ = false := (hB.frozen (p := ⟨b, 1, none⟩) hbs).trans hf
    have HG := hide hgk; have HB := hide hB; have HR := hide hrow; have HC := hide hc; have HF := hide hf
    have hsz := hB.size
    clear hgk hB hrow hc hf
    by_cases hk : k < n
    · have hki : (k : Int) < (n : Int) := by omega
      have hk0 : (0 : Int) ≤ (k : Int) := by omega
      have hkl : k < A.length := by rw [← unhide HN]; exact hk
      obtain ⟨g, ha, h1, h2⟩ := unhide HP k A[k] (List.getElem?_eq_getElem hkl)
      have hgl := unhide HGg g ha
      rw [← (unhide HB).cell (p := ⟨g, k * 2, none⟩) hgl] at h1
      rw [← (unhide HB).cell (p := ⟨g, k * 2 + 1, none⟩) hgl] at h2
      generalize hpe : A[k] = p at h1 h2
      have HA : Hid (A[k]? = some p) := by rw [← hpe]; exact List.getElem?_eq_getElem hkl
      subst ha
      clear hpe
      by_cases hki' : k = i
      · have hne : ((k : Int) != (i : Int)) = false := by rw [bne_eq_false_iff_eq]; omega
        have HK := hide hki'
        clear hki'
        go_wp2
        go_roundg (n - (k + 1))
        case measure => rw [unhide HG]; omega
        case rel =>
          have e := rem_step (i := i) (unhide HA)
          rw [if_pos (unhide HK)] at e
          exact ⟨k + 1, by simp, rfl, by omega, by rw [e]; omega, unhide HB, by rw [e]; exact unhide HR⟩
      · have hne : ((k : Int) != (i : Int)) = true := by rw [bne_iff_ne]; omega
        have hra : Hid ((wr.alloc (.cells #[.int .i64 (p.1 : Int), .int .i64 (p.2 : Int)] 150)).ownsRow w.heap.size 150 2 u4 (rem A i k).length (flat (rem A i k))) := (unhide HR).alloc _
        have hba : Hid (w.heap.size ≤ (wr.alloc (.cells #[.int .i64 (p.1 : Int), .int .i64 (p.2 : Int)] 150)).heap.size) := by simp [Hid]; omega
        have HK := hide hki'
        clear hki'
        go_wp2_with (first | (at_builtin; refine wpList_append_own _ rfl _ _ 26 rfl w.heap.size 150 i0 (.agg #[.int .i64 0, .int .i64 0]) 2 16 Tryd.underlying26 hj hz0 hz1 hz2 rfl (by decide) _ _ _ rfl (unhide hra) ⟨wr.heap.size, 0, none⟩ 1 1 [.int .i64 (p.1 : Int), .int .i64 (p.2 : Int)] rfl rfl (cell_two_new _ _ _ _) (by simp [Value.oneCell']) (by unfold maxLen; omega) (by omega) (unhide hba) ?_; intro v7 w7 hown7 hgrow7 _))
        go_roundg (n - (k + 1))
        case measure => rw [unhide HG]; omega
        case rel =>
          have e := rem_step (i := i) (unhide HA)
          rw [if_neg (unhide HK)] at e
          refine ⟨k + 1, by simp, rfl, by omega, by rw [e]; simp; omega, ((unhide HB).alloc hsz _).grown hgrow7 (unhide hba) (fun j q => ((unhide hra).lt j q).1), ?_⟩
          rw [e, flat_append, List.length_append]
          exact hown7
    · have hki : ¬ (k : Int) < (n : Int) := by omega
      have hkn' : k = A.length := by rw [← unhide HN]; omega
      have HK := hide hkn'
      clear hkn'
      obtain ⟨sa, sn, sc, hu4⟩ : ∃ sa sn sc, u4 = .slice sa sn sc := by
        rcases (unhide HR).2 with ⟨q, _⟩ | ⟨g, cp, cur, q, _⟩
        · exact ⟨_, _, _, q⟩
        · exact ⟨_, _, _, q⟩
      subst hu4
      go_wp2
      go_end0
      refine ⟨rfl, _, wr, rfl, unhide HB, ?_⟩
      have := unhide HR
      rw [unhide HK, rem, List.take_length] at this
      exact this
end Go.Proofs.YtogdekjklbbbiaaDoor
