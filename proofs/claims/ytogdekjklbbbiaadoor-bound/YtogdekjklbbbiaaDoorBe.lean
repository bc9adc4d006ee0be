import Derived.Test.YtogdekjklbbbiaaDoorLb
import Derived.Test.YtogdekjklbbbiaaDoorBac
import Derived.Laws.ResultCell
import Derived.Laws.Rows
set_option maxRecDepth 100000
namespace Go.Proofs.YtogdekjklbbbiaaDoor
open Go.ChangeShapes Go.WideShapes Go.ChangeAt Go.RowKit
set_option linter.unusedSimpArgs false
set_option linter.unusedVariables false

theorem cell_six_new (w : World) (v0 v1 v2 v3 v4 v5 : Value) (t : TypeId) : ∀ j u, [v0, v1, v2, v3, v4, v5][j]? = some u → (w.alloc (.cells #[v0, v1, v2, v3, v4, v5] t)).cell? ((⟨w.heap.size, 0, none⟩ : Addr).add j) = some u := by
  intro j u hu
  rw [add_lit, Nat.zero_add, heap_cell (heap_alloc_new _ _)]
  rw [← hu]
  simp
def seen0 : Obj := .cells #[.slice none 0 0, .slice none 0 0, .slice none 0 0, .slice none 0 0] 45
theorem seen_cells {W : World} {z : Nat} (h : W.heap[z]? = some seen0) : (∀ i, i < 4 → W.cell? ⟨z, i, none⟩ = some (.slice none 0 0)) ∧ ∀ o, W.frozen? ⟨z, o, none⟩ = false := by
  refine ⟨fun i hi => ?_, fun o => by simp [World.frozen?, h, seen0]⟩
  have h' : W.heap[z]? = some (.cells #[.slice none 0 0, .slice none 0 0, .slice none 0 0, .slice none 0 0] 45) := h
  rw [heap_cell h']
  match i, hi with
  | 0, _ => rfl
  | 1, _ => rfl
  | 2, _ => rfl
  | 3, _ => rfl
theorem seen_set {W : World} {z : Nat} (h : W.heap[z]? = some seen0) (v0 v1 v2 v3 : Value) : ((((W.setCell ⟨z, 0, none⟩ v0).setCell ⟨z, 1, none⟩ v1).setCell ⟨z, 2, none⟩ v2).setCell ⟨z, 3, none⟩ v3).heap[z]? = some (.cells #[v0, v1, v2, v3] 45) := by
  have h0 := heap_setCell_same W z 0 _ _ v0 h
  have h1 := heap_setCell_same _ z 1 _ _ v1 h0
  have h2 := heap_setCell_same _ z 2 _ _ v2 h1
  exact heap_setCell_same _ z 3 _ _ v3 h2
def set4 (W : World) (z : Nat) (v0 v1 v2 v3 : Value) : World := (((W.setCell ⟨z, 0, none⟩ v0).setCell ⟨z, 1, none⟩ v1).setCell ⟨z, 2, none⟩ v2).setCell ⟨z, 3, none⟩ v3
theorem set4_ch (W : World) (z : Nat) (v0 v1 v2 v3 : Value) : Ch W (set4 W z v0 v1 v2 v3) (fun a o => a = z) := by
  have h0 : Ch W W (fun a o => a = z) := Ch.refl W _
  have h1 := h0.setCell (b := z) (o := 0) rfl v0
  have h2 := h1.setCell (b := z) (o := 1) rfl v1
  have h3 := h2.setCell (b := z) (o := 2) rfl v2
  exact h3.setCell (b := z) (o := 3) rfl v3
theorem set4_heap {W : World} {z : Nat} (h : W.heap[z]? = some seen0) (v0 v1 v2 v3 : Value) : (set4 W z v0 v1 v2 v3).heap[z]? = some (.cells #[v0, v1, v2, v3] 45) := seen_set h v0 v1 v2 v3
theorem set4_alloc {W : World} {z : Nat} (h : W.heap[z]? = some seen0) (v0 v1 v2 v3 : Value) (O : Obj) : ((set4 W z v0 v1 v2 v3).alloc O).heap[z]? = some (.cells #[v0, v1, v2, v3] 45) := by
  rw [Below.heap_alloc]
  · exact set4_heap h v0 v1 v2 v3
  · rw [(set4_ch W z v0 v1 v2 v3).size]; exact (Array.getElem?_eq_some_iff.1 h).1
theorem results_watch (tmps : Array Value) (w : World) (z : Nat) (v0 v1 v2 v3 : Value) (hp : tmps.getD 4 undef = .pointer (some ⟨z, 0, none⟩)) (h5 : tmps.getD 5 undef = .bool true) (hg : w.heap[z]? = some (.cells #[v0, v1, v2, v3] 45)) : (results Tryd.f18 tmps).run Tryd.prog w = .ok (.tuple #[.agg #[v0, v1, v2, v3], .bool true]) w := by
  rw [results_cell_tmp (p := 4) (u := 5) (ty := 45) rfl, hp, h5]
  simp only [asAddr, Sem.run_pure, Result.andThen_ok]
  rw [run_loadVar_row w z 45 45 _ _ _ hg Tryd.underlying45 rfl (by kernel_rfl)]
  rfl
set_option maxHeartbeats 4000000 in
theorem watch_walk (q : Int) (sa : Option Addr) (n cp : Nat) (w : World) (hb : n < 8796093022208) (hsa : 0 < n → ∃ g o, sa = some ⟨g, o, none⟩) (op : Nat → OpV)
    (Rb : World → Prop) (R0 : Nat → World → Prop) (R RA RS : Nat → Nat → Nat → Nat → Option Addr → Nat → Nat → World → Prop) (RP : Nat → Nat → Nat → Nat → Option Addr → Nat → Nat → Value → World → Prop) (Post : Value → World → Prop)
    (hN : Calls Tryd.prog 20 #[.int .i64 q] (w.alloc seen0) fun e w' => (e = .returned (.tuple #[.pointer none, .int .i64 1]) ∧ (q < 1500 ∨ 1000000 < q) ∧ Rb w') ∨ ∃ b, e = .returned (.tuple #[.pointer (some ⟨b, 0, none⟩), .int .i64 0]) ∧ R0 b w')
    (hB : ∀ w', Rb w' → w'.heap[w.heap.size]? = some seen0 ∧ ∀ w'', Ch w' w'' (fun a o => a = w.heap.size) → Post (.agg #[.slice none 0 0, .slice none 0 0, .slice none 0 0, .slice none 0 0]) (w''.alloc seen0))
    (hR0 : ∀ b w', R0 b w' → R b w'.heap.size 0 0 none 0 0 (w'.alloc seen0))
    (hZ : ∀ b z k ck al m cl wr, R b z k ck al m cl wr → wr.heap[w.heap.size]? = some seen0)
    (hC : ∀ b z k ck al m cl wr, R b z k ck al m cl wr → k < n → ck < 9000000000000000000 ∧ ∀ g o, sa = some ⟨g, o, none⟩ → wr.cell? ⟨g, o + k * 6, none⟩ = some (.int .i64 (op k).k) ∧ wr.cell? ⟨g, o + k * 6 + 1, none⟩ = some (.int .i64 (op k).a) ∧ wr.cell? ⟨g, o + k * 6 + 2, none⟩ = some (.int .i64 (op k).b) ∧ wr.cell? ⟨g, o + k * 6 + 3, none⟩ = some (.int .i64 (op k).c) ∧ wr.cell? ⟨g, o + k * 6 + 4, none⟩ = some (.int .i64 (op k).w) ∧ wr.cell? ⟨g, o + k * 6 + 5, none⟩ = some (.slice (op k).sa (op k).sn (op k).sc))
    (hA : ∀ b z k ck al m cl wr, R b z k ck al m cl wr → k < n → (op k).k = 1 → Calls Tryd.prog 21 #[.pointer (some ⟨b, 0, none⟩), .int .i64 (op k).a, .int .i64 (op k).b] (wr.alloc (op k).obj) fun e w' => ∃ v1 v2 : Int, e = .returned (.tuple #[.int .i64 v1, .int .i64 v2]) ∧ w'.heap[wr.heap.size]? = some (op k).obj ∧ ((v2 ≠ 0 ∧ R b z (k + 1) ck al m cl w') ∨ (v2 = 0 ∧ v1 = (m : Int) + 1 ∧ RA b z k ck al m cl w')))
    (hAA : ∀ b z k ck al m cl wr, RA b z k ck al m cl wr → k < n → m < 4398046511360 ∧ ∃ xs, wr.ownsRow 0 105 6 (.slice al m cl) m xs ∧ ∀ al' cl' w'', w''.ownsRow 0 105 6 (.slice al' (m + 1) cl') (m + 1) (xs ++ [.int .i64 ((m : Int) + 1), .int .i64 0, .int .i64 (op k).b, .int .i64 (op k).a, .int .i64 (op k).b, .bool true]) →
      ((((Value.slice al' (m + 1) cl').ownBlock = (Value.slice al m cl).ownBlock ∧ (wr.alloc (.cells #[.int .i64 ((m : Int) + 1), .int .i64 0, .int .i64 (op k).b, .int .i64 (op k).a, .int .i64 (op k).b, .bool true] 105)).grownBy w'' (Value.slice al m cl).ownBlock) ∨ ((Value.slice al' (m + 1) cl').ownBlock = some (wr.alloc (.cells #[.int .i64 ((m : Int) + 1), .int .i64 0, .int .i64 (op k).b, .int .i64 (op k).a, .int .i64 (op k).b, .bool true] 105)).heap.size ∧ (wr.alloc (.cells #[.int .i64 ((m : Int) + 1), .int .i64 0, .int .i64 (op k).b, .int .i64 (op k).a, .int .i64 (op k).b, .bool true] 105)).grownBy w'' none))) → R b z (k + 1) ck al' (m + 1) cl' w'')
    (hS : ∀ b z k ck al m cl wr, R b z k ck al m cl wr → k < n → (op k).k = 2 → Calls Tryd.prog 22 #[.pointer (some ⟨b, 0, none⟩), .int .i64 (op k).a, .int .i64 (op k).b, .int .i64 (op k).c] (wr.alloc (op k).obj) fun e w' => ∃ v2 : Int, e = .returned (.int .i64 v2) ∧ w'.heap[wr.heap.size]? = some (op k).obj ∧ ((v2 ≠ 0 ∧ R b z (k + 1) ck al m cl w') ∨ (v2 = 0 ∧ RS b z k ck al m cl w' ∧ al.map (·.block) ≠ some wr.heap.size)))
    (hSS : ∀ b z k ck al m cl wr, RS b z k ck al m cl wr → k < n → ∃ (gt a : Nat), al = some ⟨gt, 0, none⟩ ∧ (op k).a = (a : Int) + 1 ∧ a < m ∧ m < 8796093022208 ∧ (∃ u, wr.cell? ⟨gt, a * 6 + 3, none⟩ = some u) ∧ (∃ u, wr.cell? ⟨gt, a * 6 + 4, none⟩ = some u) ∧ (∀ o, wr.frozen? ⟨gt, o, none⟩ = false) ∧ R b z (k + 1) ck al m cl ((wr.setCell ⟨gt, a * 6 + 3, none⟩ (.int .i64 (op k).b)).setCell ⟨gt, a * 6 + 4, none⟩ (.int .i64 (op k).c)))
    (hQ : ∀ b z k ck al m cl wr, R b z k ck al m cl wr → k < n → (op k).k = 3 → Calls Tryd.prog 23 #[.pointer (some ⟨b, 0, none⟩), .int .i64 (op k).a, .int .i64 (op k).b, .int .i64 (op k).c] (wr.alloc (op k).obj) fun e w' => ∃ v2 : Int, e = .returned (.int .i64 v2) ∧ R b z (k + 1) ck al m cl w')
    (hM : ∀ b z k ck al m cl wr, R b z k ck al m cl wr → k < n → (op k).k = 4 → Calls Tryd.prog 24 #[.pointer (some ⟨b, 0, none⟩), .int .i64 (op k).a] (wr.alloc (op k).obj) fun e w' => ∃ v v2, e = .returned (.tuple #[v, .int .i64 v2]) ∧ R b z (k + 1) ck al m cl w')
    (hP : ∀ b z k ck al m cl wr, R b z k ck al m cl wr → k < n → (op k).k = 5 → Calls Tryd.prog 25 #[.pointer (some ⟨b, 0, none⟩), .int .i64 (op k).a, .int .i64 (op k).b] (wr.alloc (op k).obj) fun e w' => w'.heap[wr.heap.size]? = some (op k).obj ∧ ((∃ a c v2, e = .returned (.tuple #[.slice a 0 c, .int .i64 v2]) ∧ v2 ≠ 0 ∧ 4000000000000000000 < (op k).a ∧ R b z (k + 1) ck al m cl w') ∨
      ∃ a mm c, e = .returned (.tuple #[.slice a mm c, .int .i64 0]) ∧ RP b z k (max (ck : Int) (op k).a).toNat al m cl (.slice a mm c) w'))
    (hW : ∀ b z k ck al m cl v wr, RP b z k ck al m cl v wr → k < n → Calls Tryd.prog 43 #[.pointer (some ⟨z, 0, none⟩), .slice al m cl, v, .int .i64 (ck : Int)] wr fun e w' => e = .returned (.bool true) ∧ R b z (k + 1) ck al m cl w')
    (hOth : ∀ b z k ck al m cl wr, R b z k ck al m cl wr → k < n → R b z (k + 1) ck al m cl (wr.alloc (op k).obj))
    (hE : ∀ b z ck al m cl wr, R b z n ck al m cl wr → z ≠ w.heap.size ∧ ∃ a0 n0 c0 a1 n1 c1 a2 n2 c2 a3 n3 c3, wr.cell? ⟨z, 0, none⟩ = some (.slice a0 n0 c0) ∧ wr.cell? ⟨z, 1, none⟩ = some (.slice a1 n1 c1) ∧ wr.cell? ⟨z, 2, none⟩ = some (.slice a2 n2 c2) ∧ wr.cell? ⟨z, 3, none⟩ = some (.slice a3 n3 c3) ∧ ∀ w'', Ch wr w'' (fun a o => a = w.heap.size) → Post (.agg #[.slice a0 n0 c0, .slice a1 n1 c1, .slice a2 n2 c2, .slice a3 n3 c3]) w'') :
    Calls Tryd.prog 18 #[.int .i64 q, .slice sa n cp] w fun e w' => ∃ v, e = .returned (.tuple #[v, .bool true]) ∧ Post v w' := by
  obtain ⟨i1, hj, hy0, hy1, hy2⟩ := info_parts info105
  have HN := hide hN; have HB := hide hB; have HR0 := hide hR0; have HZ := hide hZ; have HC := hide hC; have HA := hide hA; have HAA := hide hAA; have HS := hide hS; have HSS := hide hSS; have HQ := hide hQ; have HM := hide hM; have HP := hide hP; have HW := hide hW; have HOth := hide hOth; have HE := hide hE; have HSA := hide hsa
  clear hN hB hR0 hZ hC hA hAA hS hSS hQ hM hP hW hOth hE hsa
  go_enter Tryd.func18, Tryd.ntmps18
  go_wp2_with fail
  refine (unhide HN).mono ?_
  rintro e w2 (⟨rfl, hq, hp⟩ | ⟨b, rfl, hR⟩)
  · obtain ⟨h1, h2⟩ := unhide HB _ hp
    have HP1 := hide h2
    have hw2 : w.heap.size < w2.heap.size := (Array.getElem?_eq_some_iff.1 h1).1
    have hz4 : (w2.alloc seen0).heap[w.heap.size]? = some seen0 := (Below.heap_alloc _ _ _ hw2).trans h1
    obtain ⟨hs1, hs2⟩ := seen_cells h1
    have z0 := hs1 0 (by omega)
    have z1 := hs1 1 (by omega)
    have z2 := hs1 2 (by omega)
    have z3 := hs1 3 (by omega)
    have y0 := hs2 0
    have y1 := hs2 1
    have y2 := hs2 2
    have y3 := hs2 3
    have ha0 := old_cell z0 (.cells #[.slice none 0 0, .slice none 0 0, .slice none 0 0, .slice none 0 0] 45)
    have hb0 : (w2.alloc (.cells #[.slice none 0 0, .slice none 0 0, .slice none 0 0, .slice none 0 0] 45)).frozen? ⟨w.heap.size, 0, none⟩ = false := (frozen_of (Below.heap_alloc _ _ _ hw2) 0).trans y0
    clear hp h2 hs1 hs2
    have HZ4 := hide h1
    clear h1
    rcases hq with hq | hq
    · go_wp2_with (first | (go_at_call 12; refine (num_any _ _).mono ?_; rintro e w8 ⟨rfl, rfl⟩))
      all_goals
        refine bodyPost_ret (results_watch _ _ w.heap.size (.slice none 0 0) (.slice none 0 0) (.slice none 0 0) (.slice none 0 0) rfl rfl (set4_alloc (unhide HZ4) _ _ _ _ _)) rfl ⟨_, rfl, ?_⟩
        exact unhide HP1 _ (set4_ch w2 w.heap.size _ _ _ _)
    · have hq' : decide (q < 1500) = false := decide_eq_false (by omega)
      go_wp2_with (first | (go_at_call 12; refine (num_any _ _).mono ?_; rintro e w8 ⟨rfl, rfl⟩))
      all_goals
        refine bodyPost_ret (results_watch _ _ w.heap.size (.slice none 0 0) (.slice none 0 0) (.slice none 0 0) (.slice none 0 0) rfl rfl (set4_alloc (unhide HZ4) _ _ _ _ _)) rfl ⟨_, rfl, ?_⟩
        exact unhide HP1 _ (set4_ch w2 w.heap.size _ _ _ _)
  · have HR := hide (unhide HR0 _ _ hR)
    have hnil := eqp_nil w2 b
    have hnil2 := eqp_nil (w2.alloc (.cells #[.slice none 0 0, .slice none 0 0, .slice none 0 0, .slice none 0 0] 45)) b
    clear hR
    go_wp2_with (first | (go_at_call 12; refine (num_any _ _).mono ?_; rintro e w8 ⟨rfl, rfl⟩))
    obtain ⟨z, hz⟩ : ∃ z, z = w2.heap.size := ⟨_, rfl⟩
    rw [← hz] at HR
    rw [← hz]
    clear hz hnil hnil2
    go_loopg [9, 10, 11] n (fun gk vl vc vi wr => ∃ (k ck m cl : Nat) (al : Option Addr), vl = .slice al m cl ∧ vc = .int .i64 (ck : Int) ∧ vi = .int .i64 (k : Int) ∧ gk = n - k ∧ k ≤ n ∧ R b z k ck al m cl wr)
    case atStart => exact ⟨0, 0, 0, 0, none, rfl, rfl, rfl, rfl, Nat.zero_le _, unhide HR⟩
    case round =>
      obtain ⟨k, ck, m, cl, al, hvl, hvc, hvi, hgk, hkn, hRk⟩ := hrel
      rw [hvl, hvc, hvi]
      clear hvl hvc hvi HR
      have HG := hide hgk; have HRk := hide hRk
      clear hgk hRk
      by_cases hk : k < n
      · have hki : (k : Int) < (n : Int) := by omega
        have hk0 : (0 : Int) ≤ (k : Int) := by omega
        obtain ⟨hck, hcs⟩ := unhide HC _ _ _ _ _ _ _ _ (unhide HRk) hk
        obtain ⟨g, o, rfl⟩ := unhide HSA (by omega)
        obtain ⟨e0, e1, e2, e3, e4, e5⟩ := hcs g o rfl
        have HOp := hide (And.intro (unhide HA b z k ck al m cl wr (unhide HRk) hk) (And.intro (unhide HS b z k ck al m cl wr (unhide HRk) hk) (And.intro (unhide HQ b z k ck al m cl wr (unhide HRk) hk) (And.intro (unhide HM b z k ck al m cl wr (unhide HRk) hk) (And.intro (unhide HP b z k ck al m cl wr (unhide HRk) hk) (unhide HOth b z k ck al m cl wr (unhide HRk) hk))))))
        have HOp2 := hide (And.intro (fun w' h => unhide HAA b z k ck al m cl w' h hk) (And.intro (fun w' h => unhide HSS b z k ck al m cl w' h hk) (fun ck' v w' h => unhide HW b z k ck' al m cl v w' h hk)))
        have HOb : Hid ((op k).obj = .cells #[.int .i64 (op k).k, .int .i64 (op k).a, .int .i64 (op k).b, .int .i64 (op k).c, .int .i64 (op k).w, .slice (op k).sa (op k).sn (op k).sc] 56) := rfl
        generalize (op k).obj = ob at HOp HOb
        generalize (op k).k = kk at HOp HOb e0
        generalize (op k).a = xa at HOp HOp2 HOb e1
        generalize (op k).b = xb at HOp HOp2 HOb e2
        generalize (op k).c = xc at HOp HOp2 HOb e3
        generalize (op k).w = xw at HOp HOb e4
        generalize (op k).sa = s1 at HOp HOb e5
        generalize (op k).sn = s2 at HOp HOb e5
        generalize (op k).sc = s3 at HOp HOb e5
        obtain rfl := unhide HOb
        clear hcs HOb
        by_cases k1 : kk = 1
        · have HCall := hide ((unhide HOp).1 k1)
          subst k1
          clear HOp
          go_wp2_with fail
          refine (unhide HCall).mono ?_
          rintro e w5 ⟨v1, v2, rfl, hh5, ⟨hv2, hR5⟩ | ⟨rfl, rfl, hR5⟩⟩
          · have HR5 := hide hR5
            have hne : (v2 == 0) = false := by simp [hv2]
            clear hR5 hh5
            go_wp2_with (first | (go_at_call 12; refine (num_any _ _).mono ?_; rintro e w8 ⟨rfl, rfl⟩))
            go_roundg (n - (k + 1))
            case measure => rw [unhide HG]; omega
            case rel => exact ⟨k + 1, ck, m, cl, al, rfl, rfl, by go_num, rfl, by omega, unhide HR5⟩
          · obtain ⟨hm, xs, hown, hcl⟩ := (unhide HOp2).1 _ hR5
            have HOwn := hide hown; have HCl := hide hcl
            obtain ⟨d1, d2, d3⟩ := cells6 hh5
            have hmne : ((m : Int) + 1 != (m : Int) + 1) = false := by simp
            clear hR5 hown hcl
            go_wp2_with (first | (go_at_call 12; refine (num_any _ _).mono ?_; rintro e w8 ⟨rfl, rfl⟩) | (at_builtin; refine wpList_append1 rfl _ _ 103 rfl 105 i1 (.agg #[.int .i64 0, .int .i64 0, .int .i64 0, .int .i64 0, .int .i64 0, .bool false]) 6 48 Tryd.underlying103 hj hy0 hy1 hy2 rfl (.slice al m cl) m xs rfl ((unhide HOwn).alloc _) _ _ [.int .i64 ((m : Int) + 1), .int .i64 0, .int .i64 xb, .int .i64 xa, .int .i64 xb, .bool true] rfl rfl (cell_six_new _ _ _ _ _ _ _ _) (by simp [Value.oneCell']) (by unfold maxLen; omega) (by omega) ?_; intro v6 w6 hown6 hgr6; obtain ⟨g6, cap6, hv6, _, _, _, _, _⟩ := row_shape hown6 (by omega); subst hv6; have HR6 := hide (unhide HCl _ _ _ hown6 hgr6); clear hown6 hgr6))
            go_roundg (n - (k + 1))
            case measure => rw [unhide HG]; omega
            case rel => exact ⟨k + 1, ck, m + 1, cap6, _, rfl, rfl, by go_num, rfl, by omega, unhide HR6⟩
        have j1 : (kk == 1) = false := by simp [k1]
        by_cases k2 : kk = 2
        · have HCall := hide ((unhide HOp).2.1 k2)
          subst k2
          clear HOp
          go_wp2_with fail
          refine (unhide HCall).mono ?_
          rintro e w5 ⟨v2, rfl, hh5, ⟨hv2, hR5⟩ | ⟨rfl, hR5, hgz⟩⟩
          · have HR5 := hide hR5
            have hne : (v2 == 0) = false := by simp [hv2]
            clear hR5 hh5
            go_wp2_with (first | (go_at_call 12; refine (num_any _ _).mono ?_; rintro e w8 ⟨rfl, rfl⟩))
            go_roundg (n - (k + 1))
            case measure => rw [unhide HG]; omega
            case rel => exact ⟨k + 1, ck, m, cl, al, rfl, rfl, by go_num, rfl, by omega, unhide HR5⟩
          · obtain ⟨gt, a, hal, hxa, ham, hmb, ⟨u3, t3⟩, ⟨u4, t4⟩, hfz, hR6⟩ := (unhide HOp2).2.1 _ hR5
            have HR6 := hide hR6
            obtain ⟨d1, d2, d3⟩ := cells6 hh5
            subst hal
            subst hxa
            have f3 := hfz (a * 6 + 3)
            have f4 := hfz (a * 6 + 4)
            have hne : gt ≠ wr.heap.size := fun e => hgz (by rw [e]; rfl)
            have hne2 : wr.heap.size ≠ gt := fun e => hne e.symm
            have ha1 : decide ((a : Int) + 1 < 1) = false := decide_eq_false (by omega)
            have ha2 : decide ((m : Int) < (a : Int) + 1) = false := decide_eq_false (by omega)
            have ha3 : (a : Int) < (m : Int) := by omega
            have ha4 : (0 : Int) ≤ (a : Int) := by omega
            clear hR5 hR6 hfz hgz hh5
            go_wp2_with (first | (go_at_call 12; refine (num_any _ _).mono ?_; rintro e w8 ⟨rfl, rfl⟩))
            go_roundg (n - (k + 1))
            case measure => rw [unhide HG]; omega
            case rel => exact ⟨k + 1, ck, m, cl, _, rfl, rfl, by go_num, rfl, by omega, unhide HR6⟩
        have j2 : (kk == 2) = false := by simp [k2]
        by_cases k3 : kk = 3
        · have HCall := hide ((unhide HOp).2.2.1 k3)
          subst k3
          clear HOp
          go_wp2_with fail
          refine (unhide HCall).mono ?_
          rintro e w5 ⟨v2, rfl, hR5⟩
          have HR5 := hide hR5
          clear hR5
          go_wp2_with fail
          go_roundg (n - (k + 1))
          case measure => rw [unhide HG]; omega
          case rel => exact ⟨k + 1, ck, m, cl, al, rfl, rfl, by go_num, rfl, by omega, unhide HR5⟩
        have j3 : (kk == 3) = false := by simp [k3]
        by_cases k4 : kk = 4
        · have HCall := hide ((unhide HOp).2.2.2.1 k4)
          subst k4
          clear HOp
          go_wp2_with fail
          refine (unhide HCall).mono ?_
          rintro e w5 ⟨v, v2, rfl, hR5⟩
          have HR5 := hide hR5
          clear hR5
          go_wp2_with fail
          go_roundg (n - (k + 1))
          case measure => rw [unhide HG]; omega
          case rel => exact ⟨k + 1, ck, m, cl, al, rfl, rfl, by go_num, rfl, by omega, unhide HR5⟩
        have j4 : (kk == 4) = false := by simp [k4]
        by_cases k5 : kk = 5
        · have HCall := hide ((unhide HOp).2.2.2.2.1 k5)
          have HWk := hide ((unhide HOp2).2.2)
          subst k5
          clear HOp
          go_wp2_with fail
          refine (unhide HCall).mono ?_
          rintro e w5 ⟨hh5, ⟨a, c, v2, rfl, hv2, hbig, hR5⟩ | ⟨a, mm, c, rfl, hRP⟩⟩
          · have HR5 := hide hR5
            obtain ⟨d1, d2, d3⟩ := cells6 hh5
            have hne : (v2 != 0) = true := by simp [hv2]
            have hle : decide (xa ≤ 4000000000000000000) = false := decide_eq_false (by omega)
            clear hR5 hh5
            go_wp2_with (first | (go_at_call 12; refine (num_any _ _).mono ?_; rintro e w8 ⟨rfl, rfl⟩))
            go_roundg (n - (k + 1))
            case measure => rw [unhide HG]; omega
            case rel => exact ⟨k + 1, ck, m, cl, al, rfl, rfl, by go_num, rfl, by omega, unhide HR5⟩
          · obtain ⟨d1, d2, d3⟩ := cells6 hh5
            have HRP := hide hRP
            clear hRP hh5
            by_cases hgt : (ck : Int) < xa
            · have HCV : Hid (xa = ((max (ck : Int) xa).toNat : Int)) := by show xa = _; omega
              go_wp2_with (first | (go_at_call 12; refine (num_any _ _).mono ?_; rintro e w8 ⟨rfl, rfl⟩))
              have HW2 := hide (unhide HWk _ _ _ (unhide HRP))
              rw [← (unhide HCV)] at HW2
              refine (unhide HW2).mono ?_
              rintro e w6 ⟨rfl, hR6⟩
              have HR6 := hide hR6
              clear hR6 d1 d2 d3
              go_wp2_with fail
              go_roundg (n - (k + 1))
              case measure => rw [unhide HG]; omega
              case rel => exact ⟨k + 1, (max (ck : Int) xa).toNat, m, cl, al, rfl, by rw [← (unhide HCV)], by go_num, rfl, by omega, unhide HR6⟩
            · have hgt' : decide ((ck : Int) < xa) = false := decide_eq_false hgt
              have HCV : Hid ((ck : Int) = ((max (ck : Int) xa).toNat : Int)) := by show (ck : Int) = _; omega
              go_wp2_with (first | (go_at_call 12; refine (num_any _ _).mono ?_; rintro e w8 ⟨rfl, rfl⟩))
              have HW2 := hide (unhide HWk _ _ _ (unhide HRP))
              rw [← (unhide HCV)] at HW2
              refine (unhide HW2).mono ?_
              rintro e w6 ⟨rfl, hR6⟩
              have HR6 := hide hR6
              clear hR6 d1 d2 d3
              go_wp2_with fail
              go_roundg (n - (k + 1))
              case measure => rw [unhide HG]; omega
              case rel => exact ⟨k + 1, (max (ck : Int) xa).toNat, m, cl, al, rfl, by rw [← (unhide HCV)], by go_num, rfl, by omega, unhide HR6⟩
        have j5 : (kk == 5) = false := by simp [k5]
        have HR5 := hide ((unhide HOp).2.2.2.2.2)
        clear HOp
        go_wp2_with fail
        go_roundg (n - (k + 1))
        case measure => rw [unhide HG]; omega
        case rel => exact ⟨k + 1, ck, m, cl, al, rfl, rfl, by go_num, rfl, by omega, unhide HR5⟩
      · have hki : ¬ (k : Int) < (n : Int) := by omega
        have hkn' : k = n := by omega
        have hz4 := unhide HZ _ _ _ _ _ _ _ _ (unhide HRk)
        have HRn : Hid (R b z n ck al m cl wr) := by rw [← hkn']; exact unhide HRk
        obtain ⟨hzne, a0, n0, c0, a1, n1, c1, a2, n2, c2, a3, n3, c3, x0, x1, x2, x3, hpost⟩ := unhide HE _ _ _ _ _ _ _ (unhide HRn)
        have HPost := hide hpost
        obtain ⟨hs1, hs2⟩ := seen_cells hz4
        have HZ4 := hide hz4
        have y0 := hs1 0 (by omega)
        have y1 := hs1 1 (by omega)
        have y2 := hs1 2 (by omega)
        have y3 := hs1 3 (by omega)
        have f0 := hs2 0
        have f1 := hs2 1
        have f2 := hs2 2
        have f3 := hs2 3
        have hzne2 : w.heap.size ≠ z := fun e => hzne e.symm
        clear hkn' hz4 hs1 hs2 hpost
        go_wp2_with fail
        refine bodyPost_ret (results_watch _ _ w.heap.size (.slice a0 n0 c0) (.slice a1 n1 c1) (.slice a2 n2 c2) (.slice a3 n3 c3) rfl rfl (set4_heap (unhide HZ4) _ _ _ _)) rfl ⟨_, rfl, ?_⟩
        exact unhide HPost _ (set4_ch wr w.heap.size _ _ _ _)
end Go.Proofs.YtogdekjklbbbiaaDoor
