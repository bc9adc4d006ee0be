import Derived.Test.YtogdekjklbbbiaaDoorLb
import Derived.Test.YtogdekjklbbbiaaDoorOnw
import Derived.Deep.RegionLaw
import Derived.Deep.DrawnRows
set_option maxRecDepth 100000
namespace Go.Proofs.YtogdekjklbbbiaaDoor
open Go.ChangeShapes Go.WideShapes Go.ChangeAt Go.RowKit
set_option linter.unusedSimpArgs false
set_option linter.unusedVariables false

theorem info70 : (Tryd.prog.info? 70).map (fun i => (i.zero, i.size, i.bytes)) = some (some (.agg #[.slice none 0 0, .int .i64 0, .int .i64 0, .bool false]), 4, 48) := by kernel_rfl
theorem cell_four_new (w : World) (v0 v1 v2 v3 : Value) (t : TypeId) : ∀ j u, [v0, v1, v2, v3][j]? = some u → (w.alloc (.cells #[v0, v1, v2, v3] t)).cell? ((⟨w.heap.size, 0, none⟩ : Addr).add j) = some u := by
  intro j u hu
  rw [add_lit, Nat.zero_add, heap_cell (heap_alloc_new _ _)]
  rw [← hu]
  simp
theorem step_append1 {P : Program} {ops : Array Oper} {o : Oper} {a : Act} {w : World} {K : Act → World → Prop} {Q : Exit → Act → World → Prop} {E : Prop}
    (hg : o.guard = none) (s x : Operand) (t : TypeId) (hop : o.op = Op.call { callee := Callee.builtin Builtin.append, args := #[s, x], argTypes := #[t, t] })
    (e : TypeId) (i : TypeInfo) (z : Value) (size bytes : Nat) (ht : P.underlying t = some (.slice e)) (hi : P.info? e = some i) (hz : i.zero = some z)
    (hsize : i.size = size) (hby : i.bytes = bytes) (hzs : z.cells.size = size)
    (v : Value) (n : Nat) (xs : List Value) (hs : a.eval s = v) (hown : w.ownsRow 0 e size v n xs)
    (ad : Addr) (c : Nat) (news : List Value) (hx : a.eval x = .slice (some ad) 1 c) (hl : news.length = size) (hnews : ∀ j u, news[j]? = some u → w.cell? (ad.add j) = some u) (h1 : ∀ u ∈ news, u.oneCell' = true)
    (h63 : n + 1 ≤ maxLen) (hfit : (n + (n + 768) / 4 + 256) * bytes ≤ 281474976710656)
    (hK : ∀ v' w', w'.ownsRow 0 e size v' (n + 1) (xs ++ news) → ((v'.ownBlock = v.ownBlock ∧ w.grownBy w' v.ownBlock) ∨ (v'.ownBlock = some w.heap.size ∧ w.grownBy w' none)) → K (a.put o.dst v') w') :
    if Region.wanted o (yielded ops a.tmps) = true then Oper.wp P o a w K Q else E := by
  have hw : Region.wanted o (yielded ops a.tmps) = true := by simp [Region.wanted, hg]
  rw [if_pos hw]
  obtain ⟨v', w', hr, h2, h3⟩ := run_append1 (P := P) w t o.type e i z size bytes ht hi hz hsize hby hzs v n xs hown ad c news hl hnews h1 h63 hfit
  unfold Oper.wp
  simp [execOp, hop, resolve, invoke, builtin, hs, hx, hr, Result.andThen]
  exact hK v' w' h2 h3
/-- What follows an append of a tag. -/
def TagNext (wr : World) (zo k gt a : Nat) (ta : Option Addr) (tn tc : Nat) (txs : List Value) (Q : World → Prop) : Prop :=
  ∀ (g c : Nat) (w6 : World), w6.ownsRow 0 3 1 (.slice (some ⟨g, 0, none⟩) (tn + 1) c) (tn + 1) (txs ++ [.int .i64 (k : Int)]) →
    ((((Value.slice (some ⟨g, 0, none⟩) (tn + 1) c).ownBlock = (Value.slice ta tn tc).ownBlock ∧ (wr.alloc (.cells #[.int .i64 (k : Int)] 3)).drew.grownBy w6 (Value.slice ta tn tc).ownBlock) ∨ ((Value.slice (some ⟨g, 0, none⟩) (tn + 1) c).ownBlock = some (wr.alloc (.cells #[.int .i64 (k : Int)] 3)).drew.heap.size ∧ (wr.alloc (.cells #[.int .i64 (k : Int)] 3)).drew.grownBy w6 none))) →
    w6.heap[zo]? = wr.heap[zo]? ∧ w6.cell? ⟨gt, a * 4, none⟩ = some (.slice ta tn tc) ∧ w6.frozen? ⟨gt, a * 4, none⟩ = false ∧ Q (w6.setCell ⟨gt, a * 4, none⟩ (.slice (some ⟨g, 0, none⟩) (tn + 1) c))
attribute [local go_sem ↓] Go.wp_at_zero Go.wp_at_succ
set_option maxHeartbeats 60000000 in
theorem once_walk (q : Int) (sa : Option Addr) (n cp : Nat) (w : World) (hb : n < 8796093022208) (hsa : 0 < n → ∃ g o, sa = some ⟨g, o, none⟩) (op : Nat → OpV)
    (R RA : Nat → Nat → Nat → Nat → Nat → Option Addr → Nat → Nat → World → Prop) (RQ : Nat → Nat → Nat → Nat → Nat → Option Addr → Nat → Nat → Nat → World → Prop) (RM2 : Nat → Nat → Nat → Nat → Nat → Option Addr → Nat → Nat → Nat → Value → World → Prop) (RP : Nat → Nat → Nat → Nat → Nat → Option Addr → Nat → Nat → Value → World → Prop) (Post : World → Prop)
    (hN : Calls Tryd.prog 20 #[.int .i64 q] w fun e w' => (e = .returned (.tuple #[.pointer none, .int .i64 1]) ∧ (q < 1500 ∨ 1000000 < q) ∧ Post w') ∨ ∃ b, e = .returned (.tuple #[.pointer (some ⟨b, 0, none⟩), .int .i64 0]) ∧ R b 0 0 0 0 none 0 0 w')
    (hC : ∀ b k ck tk rf al m cl wr, R b k ck tk rf al m cl wr → k < n → ck < 9000000000000000000 ∧ tk ≤ k ∧ rf ≤ k ∧ ∀ g o, sa = some ⟨g, o, none⟩ → wr.cell? ⟨g, o + k * 6, none⟩ = some (.int .i64 (op k).k) ∧ wr.cell? ⟨g, o + k * 6 + 1, none⟩ = some (.int .i64 (op k).a) ∧ wr.cell? ⟨g, o + k * 6 + 2, none⟩ = some (.int .i64 (op k).b) ∧ wr.cell? ⟨g, o + k * 6 + 3, none⟩ = some (.int .i64 (op k).c) ∧ wr.cell? ⟨g, o + k * 6 + 4, none⟩ = some (.int .i64 (op k).w) ∧ wr.cell? ⟨g, o + k * 6 + 5, none⟩ = some (.slice (op k).sa (op k).sn (op k).sc))
    (hA : ∀ b k ck tk rf al m cl wr, R b k ck tk rf al m cl wr → k < n → (op k).k = 1 → Calls Tryd.prog 21 #[.pointer (some ⟨b, 0, none⟩), .int .i64 (op k).a, .int .i64 (op k).b] (wr.alloc (op k).obj) fun e w' => ∃ v1 v2 : Int, e = .returned (.tuple #[.int .i64 v1, .int .i64 v2]) ∧ ((v2 ≠ 0 ∧ R b (k + 1) ck tk rf al m cl w') ∨ (v2 = 0 ∧ v1 = (m : Int) + 1 ∧ RA b k ck tk rf al m cl w')))
    (hAA : ∀ b k ck tk rf al m cl wr, RA b k ck tk rf al m cl wr → k < n → m < 4398046511360 ∧ ∃ xs, wr.ownsRow 0 70 4 (.slice al m cl) m xs ∧ ∀ al' cl' w'', w''.ownsRow 0 70 4 (.slice al' (m + 1) cl') (m + 1) (xs ++ [.slice none 0 0, .int .i64 0, .int .i64 0, .bool false]) →
      ((((Value.slice al' (m + 1) cl').ownBlock = (Value.slice al m cl).ownBlock ∧ (wr.alloc (.cells #[.slice none 0 0, .int .i64 0, .int .i64 0, .bool false] 70)).grownBy w'' (Value.slice al m cl).ownBlock) ∨ ((Value.slice al' (m + 1) cl').ownBlock = some (wr.alloc (.cells #[.slice none 0 0, .int .i64 0, .int .i64 0, .bool false] 70)).heap.size ∧ (wr.alloc (.cells #[.slice none 0 0, .int .i64 0, .int .i64 0, .bool false] 70)).grownBy w'' none))) → R b (k + 1) ck tk rf al' (m + 1) cl' w'')
    (hS : ∀ b k ck tk rf al m cl wr, R b k ck tk rf al m cl wr → k < n → (op k).k = 2 → Calls Tryd.prog 22 #[.pointer (some ⟨b, 0, none⟩), .int .i64 (op k).a, .int .i64 (op k).b, .int .i64 (op k).c] (wr.alloc (op k).obj) fun e w' => ∃ v2 : Int, e = .returned (.int .i64 v2) ∧ R b (k + 1) ck tk rf al m cl w')
    (hQ : ∀ b k ck tk rf al m cl wr, R b k ck tk rf al m cl wr → k < n → (op k).k = 3 → Calls Tryd.prog 23 #[.pointer (some ⟨b, 0, none⟩), .int .i64 (op k).a, .int .i64 (k : Int), .int .i64 (op k).c] (wr.alloc (op k).obj) fun e w' => ∃ v2 : Int, e = .returned (.int .i64 v2) ∧ w'.heap[wr.heap.size]? = some (op k).obj ∧ ((v2 ≠ 0 ∧ R b (k + 1) ck tk (rf + 1) al m cl w') ∨ (v2 = 0 ∧ RQ b k ck tk rf al m cl wr.heap.size w' ∧ al.map (·.block) ≠ some wr.heap.size)))
    (hQQ : ∀ b k ck tk rf al m cl zo wr, RQ b k ck tk rf al m cl zo wr → k < n → m < 8796093022208 ∧ ∃ (gt a tn tc : Nat) (ta : Option Addr) (txs : List Value), al = some ⟨gt, 0, none⟩ ∧ (op k).a = (a : Int) + 1 ∧ a < m ∧ tn < 8796093022208 ∧ wr.cell? ⟨gt, a * 4 + 3, none⟩ = some (.bool false) ∧ wr.cell? ⟨gt, a * 4, none⟩ = some (.slice ta tn tc) ∧ wr.ownsRow 0 3 1 (.slice ta tn tc) tn txs ∧ TagNext wr zo k gt a ta tn tc txs (fun w' => R b (k + 1) ck (tk + 1) rf al m cl w'))
    (hM : ∀ b k ck tk rf al m cl wr, R b k ck tk rf al m cl wr → k < n → (op k).k = 4 → Calls Tryd.prog 24 #[.pointer (some ⟨b, 0, none⟩), .int .i64 (op k).a] (wr.alloc (op k).obj) fun e w' => ∃ v v2, e = .returned (.tuple #[v, .int .i64 v2]) ∧ w'.heap[wr.heap.size]? = some (op k).obj ∧ ((v2 ≠ 0 ∧ R b (k + 1) ck tk rf al m cl w') ∨ (v2 = 0 ∧ (∃ x y z, v = .slice x y z) ∧ al.map (·.block) ≠ some wr.heap.size ∧ ∃ a, RM2 b k ck tk rf al m cl a v w')))
    (hMM : ∀ b k ck tk rf al m cl a v wr, RM2 b k ck tk rf al m cl a v wr → k < n → m < 8796093022208 ∧ ∃ gt, al = some ⟨gt, 0, none⟩ ∧ (op k).a = (a : Int) + 1 ∧ a < m ∧ wr.cell? ⟨gt, a * 4 + 3, none⟩ = some (.bool false) ∧
      Calls Tryd.prog 27 #[.pointer (some ⟨gt, a * 4, none⟩), v] wr fun e w' => e = .returned (.bool true) ∧ (∀ z, z ≠ gt → z < wr.heap.size → w'.heap[z]? = wr.heap[z]?) ∧ ∃ ta tn tc, w'.cell? ⟨gt, a * 4, none⟩ = some (.slice ta tn tc) ∧ w'.cell? ⟨gt, a * 4 + 1, none⟩ = some (.int .i64 (tn : Int)) ∧ (∃ u, w'.cell? ⟨gt, a * 4 + 3, none⟩ = some u) ∧ w'.frozen? ⟨gt, a * 4 + 3, none⟩ = false ∧ ∀ j, R b (k + 1) ck tk rf al m cl ((w'.drewN j).setCell ⟨gt, a * 4 + 3, none⟩ (.bool true)))
    (hP : ∀ b k ck tk rf al m cl wr, R b k ck tk rf al m cl wr → k < n → (op k).k = 5 → Calls Tryd.prog 25 #[.pointer (some ⟨b, 0, none⟩), .int .i64 (op k).a, .int .i64 (op k).b] (wr.alloc (op k).obj) fun e w' => ∃ v v2, e = .returned (.tuple #[v, .int .i64 v2]) ∧ w'.heap[wr.heap.size]? = some (op k).obj ∧ ((v2 ≠ 0 ∧ RP b k ck tk rf al m cl v w') ∨ (v2 = 0 ∧ RP b k (max (ck : Int) (op k).a).toNat tk rf al m cl v w')))
    (hW : ∀ b k ck tk rf al m cl v wr, RP b k ck tk rf al m cl v wr → k < n → Calls Tryd.prog 28 #[.slice al m cl, v, .int .i64 (ck : Int)] wr fun e w' => e = .returned (.bool true) ∧ R b (k + 1) ck tk rf al m cl w')
    (hOth : ∀ b k ck tk rf al m cl wr, R b k ck tk rf al m cl wr → k < n → R b (k + 1) ck tk rf al m cl (wr.alloc (op k).obj))
    (hE : ∀ b ck tk rf al m cl wr, R b n ck tk rf al m cl wr → Calls Tryd.prog 29 #[.pointer (some ⟨b, 0, none⟩), .slice al m cl, .int .i64 (tk : Int), .int .i64 (rf : Int)] wr fun e w' => e = .returned (.bool true) ∧ Post w') :
    Calls Tryd.prog 7 #[.int .i64 q, .slice sa n cp] w fun e w' => e = .returned (.bool true) ∧ Post w' := by
  obtain ⟨i1, hj, hy0, hy1, hy2⟩ := info_parts info70
  obtain ⟨i3, hj3, hx0, hx1, hx2⟩ := info_parts info3
  have HN := hide hN; have HC := hide hC; have HA := hide hA; have HAA := hide hAA; have HS := hide hS; have HQ := hide hQ; have HQQ := hide hQQ; have HM := hide hM; have HMM := hide hMM; have HP := hide hP; have HW := hide hW; have HOth := hide hOth; have HE := hide hE; have HSA := hide hsa
  clear hN hC hA hAA hS hQ hQQ hM hMM hP hW hOth hE hsa
  go_enter Tryd.func7, Tryd.ntmps7
  go_wp2_with fail
  refine (unhide HN).mono ?_
  rintro e w2 (⟨rfl, hq, hp⟩ | ⟨b, rfl, hR⟩)
  · have HPo := hide hp
    clear hp
    rcases hq with hq | hq
    · go_wp2_with (first | (go_at_call 12; refine (num_any _ _).mono ?_; rintro e w8 ⟨rfl, rfl⟩))
      all_goals
        go_ret
        exact ⟨rfl, unhide HPo⟩
    · have hq' : decide (q < 1500) = false := decide_eq_false (by omega)
      go_wp2_with (first | (go_at_call 12; refine (num_any _ _).mono ?_; rintro e w8 ⟨rfl, rfl⟩))
      all_goals
        go_ret
        exact ⟨rfl, unhide HPo⟩
  · have HR := hide hR
    have hnil := eqp_nil w2 b
    clear hR
    go_wp2_with (first | (go_at_call 12; refine (num_any _ _).mono ?_; rintro e w8 ⟨rfl, rfl⟩))
    go_loopg [7, 8, 9, 10, 11] n (fun gk vl vt vf vc vi wr => ∃ (k ck tk rf m cl : Nat) (al : Option Addr), vl = .slice al m cl ∧ vt = .int .i64 (tk : Int) ∧ vf = .int .i64 (rf : Int) ∧ vc = .int .i64 (ck : Int) ∧ vi = .int .i64 (k : Int) ∧ gk = n - k ∧ k ≤ n ∧ R b k ck tk rf al m cl wr)
    case atStart => exact ⟨0, 0, 0, 0, 0, 0, none, rfl, rfl, rfl, rfl, rfl, rfl, Nat.zero_le _, unhide HR⟩
    case round =>
      obtain ⟨k, ck, tk, rf, m, cl, al, hvl, hvt, hvf, hvc, hvi, hgk, hkn, hRk⟩ := hrel
      rw [hvl, hvt, hvf, hvc, hvi]
      clear hvl hvt hvf hvc hvi HR hnil
      have HG := hide hgk; have HRk := hide hRk
      clear hgk hRk
      by_cases hk : k < n
      · have hki : (k : Int) < (n : Int) := by omega
        have hk0 : (0 : Int) ≤ (k : Int) := by omega
        obtain ⟨hck, htk, hrf, hcs⟩ := unhide HC _ _ _ _ _ _ _ _ _ (unhide HRk) hk
        obtain ⟨g, o, rfl⟩ := unhide HSA (by omega)
        obtain ⟨e0, e1, e2, e3, e4, e5⟩ := hcs g o rfl
        have HOp := hide (And.intro (unhide HA b k ck tk rf al m cl wr (unhide HRk) hk) (And.intro (unhide HS b k ck tk rf al m cl wr (unhide HRk) hk) (And.intro (unhide HQ b k ck tk rf al m cl wr (unhide HRk) hk) (And.intro (unhide HM b k ck tk rf al m cl wr (unhide HRk) hk) (And.intro (unhide HP b k ck tk rf al m cl wr (unhide HRk) hk) (unhide HOth b k ck tk rf al m cl wr (unhide HRk) hk))))))
        have HOp2 := hide (And.intro (fun w' h => unhide HAA b k ck tk rf al m cl w' h hk) (And.intro (fun zo w' h => unhide HQQ b k ck tk rf al m cl zo w' h hk) (And.intro (fun a v w' h => unhide HMM b k ck tk rf al m cl a v w' h hk) (fun ck' v w' h => unhide HW b k ck' tk rf al m cl v w' h hk))))
        have HOb : Hid ((op k).obj = .cells #[.int .i64 (op k).k, .int .i64 (op k).a, .int .i64 (op k).b, .int .i64 (op k).c, .int .i64 (op k).w, .slice (op k).sa (op k).sn (op k).sc] 56) := rfl
        generalize (op k).obj = ob at HOp HOb
        generalize (op k).k = kk at HOp HOb e0
        generalize (op k).a = xa at HOp HOp2 HOb e1
        generalize (op k).b = xb at HOp HOb e2
        generalize (op k).c = xc at HOp HOb e3
        generalize (op k).w = xw at HOp HOb e4
        generalize (op k).sa = s1 at HOp HOb e5
        generalize (op k).sn = s2 at HOp HOb e5
        generalize (op k).sc = s3 at HOp HOb e5
        obtain rfl := unhide HOb
        clear hcs HOb
        by_cases k1 : kk = 1
        · as_aux_lemma =>
          have HCall := hide ((unhide HOp).1 k1)
          subst k1
          clear HOp
          go_wp2_with fail
          refine (unhide HCall).mono ?_
          rintro e w5 ⟨v1, v2, rfl, ⟨hv2, hR5⟩ | ⟨rfl, rfl, hR5⟩⟩
          · have HR5 := hide hR5
            have hne : (v2 == 0) = false := by simp [hv2]
            clear hR5
            go_wp2_with (first | (go_at_call 12; refine (num_any _ _).mono ?_; rintro e w8 ⟨rfl, rfl⟩))
            go_roundg (n - (k + 1))
            case measure => rw [unhide HG]; omega
            case rel => exact ⟨k + 1, ck, tk, rf, m, cl, al, rfl, rfl, rfl, rfl, by go_num, rfl, by omega, unhide HR5⟩
          · obtain ⟨hm, xs, hown, hcl⟩ := (unhide HOp2).1 _ hR5
            have HOwn := hide hown; have HCl := hide hcl
            have hmne : ((m : Int) + 1 != (m : Int) + 1) = false := by simp
            clear hR5 hown hcl
            go_wp2_with (first | (go_at_call 12; refine (num_any _ _).mono ?_; rintro e w8 ⟨rfl, rfl⟩) | (at_builtin; refine wpList_append1 rfl _ _ 68 rfl 70 i1 (.agg #[.slice none 0 0, .int .i64 0, .int .i64 0, .bool false]) 4 48 Tryd.underlying68 hj hy0 hy1 hy2 rfl (.slice al m cl) m xs rfl ((unhide HOwn).alloc _) _ _ [.slice none 0 0, .int .i64 0, .int .i64 0, .bool false] rfl rfl (cell_four_new _ _ _ _ _ _) (by simp [Value.oneCell']) (by unfold maxLen; omega) (by omega) ?_; intro v6 w6 hown6 hgr6; obtain ⟨g6, cap6, hv6, _, _, _, _, _⟩ := row_shape hown6 (by omega); subst hv6; have HR6 := hide (unhide HCl _ _ _ hown6 hgr6); clear hown6 hgr6))
            go_roundg (n - (k + 1))
            case measure => rw [unhide HG]; omega
            case rel => exact ⟨k + 1, ck, tk, rf, m + 1, cap6, _, rfl, rfl, rfl, rfl, by go_num, rfl, by omega, unhide HR6⟩
        have j1 : (kk == 1) = false := by simp [k1]
        by_cases k2 : kk = 2
        · as_aux_lemma =>
          have HCall := hide ((unhide HOp).2.1 k2)
          subst k2
          clear HOp
          go_wp2_with fail
          refine (unhide HCall).mono ?_
          rintro e w5 ⟨v2, rfl, hR5⟩
          have HR5 := hide hR5
          clear hR5
          go_wp2_with fail
          go_roundg (n - (k + 1))
          case measure => rw [unhide HG]; omega
          case rel => exact ⟨k + 1, ck, tk, rf, m, cl, al, rfl, rfl, rfl, rfl, by go_num, rfl, by omega, unhide HR5⟩
        have j2 : (kk == 2) = false := by simp [k2]
        by_cases k3 : kk = 3
        · as_aux_lemma =>
          have HCall := hide ((unhide HOp).2.2.1 k3)
          subst k3
          clear HOp
          go_wp2_with fail
          refine (unhide HCall).mono ?_
          rintro e w5 ⟨v2, rfl, hh5, ⟨hv2, hR5⟩ | ⟨rfl, hR5, hgz⟩⟩
          · have HR5 := hide hR5
            have hne : (v2 != 0) = true := by simp [hv2]
            clear hR5 hh5
            go_wp2_with (first | (go_at_call 12; refine (num_any _ _).mono ?_; rintro e w8 ⟨rfl, rfl⟩))
            go_roundg (n - (k + 1))
            case measure => rw [unhide HG]; omega
            case rel => exact ⟨k + 1, ck, tk, rf + 1, m, cl, al, rfl, rfl, by go_num, rfl, by go_num, rfl, by omega, unhide HR5⟩
          · obtain ⟨hmb, gt, a, tn, tc, ta, txs, hal, hxa, ham, htn, g3, g0, hown, hnx⟩ := (unhide HOp2).2.1 _ _ hR5
            have HOwn := hide hown; have HNx := hide hnx
            obtain ⟨d1, d2, d3⟩ := cells6 hh5
            subst hal
            subst hxa
            have hne : gt ≠ wr.heap.size := fun e => hgz (by rw [e]; rfl)
            have hne2 : wr.heap.size ≠ gt := fun e => hne e.symm
            have ha1 : decide ((a : Int) + 1 < 1) = false := decide_eq_false (by omega)
            have ha2 : decide ((m : Int) < (a : Int) + 1) = false := decide_eq_false (by omega)
            have ha3 : (a : Int) < (m : Int) := by omega
            have ha4 : (0 : Int) ≤ (a : Int) := by omega
            have HH5 := hide hh5
            clear hR5 hown hnx hgz hh5
            go_wp2_with (first | (go_at_call 12; refine (num_any _ _).mono ?_; rintro e w8 ⟨rfl, rfl⟩))
            have HBq : Hid ((w8.alloc (.cells #[.int .i64 (k : Int)] 3)).drew.ownsRow 0 3 1 (.slice ta tn tc) tn txs) := (unhide HOwn).alloc _
            have HNq : Hid (∀ j u, [Value.int .i64 (k : Int)][j]? = some u → (w8.alloc (.cells #[.int .i64 (k : Int)] 3)).drew.cell? ((⟨w8.heap.size, 0, none⟩ : Addr).add j) = some u) := cell_one_new w8 _ 3
            have d1' := old_cell d1 (.cells #[.int .i64 (k : Int)] 3)
            have g0' := old_cell g0 (.cells #[.int .i64 (k : Int)] 3)
            have hw2 : IntKind.i64.wrap ((a : Int) + 1 - 1) = (a : Int) := by rw [wrapI (by omega) (by omega)]; omega
            have hw3 : IntKind.i64.wrap (a : Int) = (a : Int) := wrapI (by omega) (by omega)
            go_region_law (refine step_append1 rfl (.tmp 127) (.tmp 129) 33 rfl 3 i3 (.int .i64 0) 1 8 Tryd.underlying33 hj3 hx0 hx1 hx2 rfl (.slice ta tn tc) tn txs (by simp [Act.eval, Act.put]) (unhide HBq) ⟨w8.heap.size, 0, none⟩ 1 [.int .i64 (k : Int)] (by simp [Act.eval, Act.put]) rfl (unhide HNq) (by simp [Value.oneCell']) (by unfold maxLen; omega) (by omega) ?_; intro v6 w6 hown6 hgr6; obtain ⟨g6, cap6, hv6, _, _, _, _, _⟩ := row_shape hown6 (by omega); subst hv6; obtain ⟨s0, s1, s2, s3⟩ := unhide HNx _ _ _ hown6 hgr6; have HR6 := hide s3; have d1x := (cells6 (s0.trans (unhide HH5))).1; clear hown6 hgr6 s3 s0)
            all_goals
              as_aux_lemma =>
                go_wp2_with fail
                go_roundg (n - (k + 1))
                case measure => rw [unhide HG]; omega
                case rel => exact ⟨k + 1, ck, tk + 1, rf, m, cl, _, rfl, by go_num, rfl, rfl, by go_num, rfl, by omega, unhide HR6⟩
        have j3 : (kk == 3) = false := by simp [k3]
        by_cases k4 : kk = 4
        · as_aux_lemma =>
          have HCall := hide ((unhide HOp).2.2.2.1 k4)
          subst k4
          clear HOp
          go_wp2_with fail
          refine (unhide HCall).mono ?_
          rintro e w5 ⟨v, v2, rfl, hh5, ⟨hv2, hR5⟩ | ⟨rfl, ⟨x1, y1, z1, rfl⟩, hgz, a, hR5⟩⟩
          · have HR5 := hide hR5
            have hne : (v2 != 0) = true := by simp [hv2]
            clear hR5 hh5
            go_wp2_with (first | (go_at_call 12; refine (num_any _ _).mono ?_; rintro e w8 ⟨rfl, rfl⟩))
            go_roundg (n - (k + 1))
            case measure => rw [unhide HG]; omega
            case rel => exact ⟨k + 1, ck, tk, rf, m, cl, al, rfl, rfl, rfl, rfl, by go_num, rfl, by omega, unhide HR5⟩
          · obtain ⟨hmb, gt, hal, hxa, ham, g3, hcall⟩ := (unhide HOp2).2.2.1 _ _ _ hR5
            have HTold := hide hcall
            obtain ⟨d1, d2, d3⟩ := cells6 hh5
            have HH5 := hide hh5
            subst hal
            subst hxa
            have hne : gt ≠ wr.heap.size := fun e => hgz (by rw [e]; rfl)
            have hne2 : wr.heap.size ≠ gt := fun e => hne e.symm
            have ha1 : decide ((a : Int) + 1 < 1) = false := decide_eq_false (by omega)
            have ha2 : decide ((m : Int) < (a : Int) + 1) = false := decide_eq_false (by omega)
            have ha3 : (a : Int) < (m : Int) := by omega
            have ha4 : (0 : Int) ≤ (a : Int) := by omega
            have hw2 : IntKind.i64.wrap ((a : Int) + 1 - 1) = (a : Int) := by rw [wrapI (by omega) (by omega)]; omega
            have hw3 : IntKind.i64.wrap (a : Int) = (a : Int) := wrapI (by omega) (by omega)
            clear hR5 hcall hgz hh5
            go_wp2_with (first | (go_at_call 12; refine (num_any _ _).mono ?_; rintro e w8 ⟨rfl, rfl⟩))
            refine (unhide HTold).mono ?_
            rintro e w6 ⟨rfl, hblk, ta, tn, tc, t0, t1, ⟨u3, t3⟩, tz, hR6⟩
            have HR6 := hide hR6
            have hh6 := (hblk wr.heap.size hne2 (Array.getElem?_eq_some_iff.1 (unhide HH5)).1).trans (unhide HH5)
            clear d1 d2 d3
            obtain ⟨d1, d2, d3⟩ := cells6 hh6
            have htt : ((tn : Int) != (tn : Int)) = false := by simp
            clear hblk hR6 hh6 g3
            go_wp2_with fail
            go_quiet (fail)
            go_wp2_with fail
            go_roundg (n - (k + 1))
            case measure => rw [unhide HG]; omega
            case rel => exact ⟨k + 1, ck, tk, rf, m, cl, _, rfl, rfl, rfl, rfl, by go_num, rfl, by omega, unhide HR6 _⟩
        have j4 : (kk == 4) = false := by simp [k4]
        by_cases k5 : kk = 5
        · as_aux_lemma =>
          have HCall := hide ((unhide HOp).2.2.2.2.1 k5)
          have HWk := hide ((unhide HOp2).2.2.2)
          subst k5
          clear HOp
          go_wp2_with fail
          refine (unhide HCall).mono ?_
          rintro e w5 ⟨v, v2, rfl, hh5, ⟨hv2, hRP⟩ | ⟨rfl, hRP⟩⟩
          · have HW2 := hide (unhide HWk _ _ _ hRP)
            obtain ⟨d1, d2, d3⟩ := cells6 hh5
            have hne : (v2 == 0) = false := by simp [hv2]
            clear hRP hh5
            go_wp2_with (first | (go_at_call 12; refine (num_any _ _).mono ?_; rintro e w8 ⟨rfl, rfl⟩))
            refine (unhide HW2).mono ?_
            rintro e w6 ⟨rfl, hR6⟩
            have HR6 := hide hR6
            clear hR6 d1 d2 d3
            go_wp2_with fail
            go_roundg (n - (k + 1))
            case measure => rw [unhide HG]; omega
            case rel => exact ⟨k + 1, ck, tk, rf, m, cl, al, rfl, rfl, rfl, rfl, by go_num, rfl, by omega, unhide HR6⟩
          · obtain ⟨d1, d2, d3⟩ := cells6 hh5
            have HW2 := hide (unhide HWk _ _ _ hRP)
            clear hRP hh5
            by_cases hgt : (ck : Int) < xa
            · have HCV : Hid (xa = ((max (ck : Int) xa).toNat : Int)) := by show xa = _; omega
              go_wp2_with (first | (go_at_call 12; refine (num_any _ _).mono ?_; rintro e w8 ⟨rfl, rfl⟩))
              rw [← (unhide HCV)] at HW2
              refine (unhide HW2).mono ?_
              rintro e w6 ⟨rfl, hR6⟩
              have HR6 := hide hR6
              clear hR6 d1 d2 d3
              go_wp2_with fail
              go_roundg (n - (k + 1))
              case measure => rw [unhide HG]; omega
              case rel => exact ⟨k + 1, (max (ck : Int) xa).toNat, tk, rf, m, cl, al, rfl, rfl, rfl, by rw [← (unhide HCV)], by go_num, rfl, by omega, unhide HR6⟩
            · have hgt' : decide ((ck : Int) < xa) = false := decide_eq_false hgt
              have HCV : Hid ((ck : Int) = ((max (ck : Int) xa).toNat : Int)) := by show (ck : Int) = _; omega
              go_wp2_with (first | (go_at_call 12; refine (num_any _ _).mono ?_; rintro e w8 ⟨rfl, rfl⟩))
              rw [← (unhide HCV)] at HW2
              refine (unhide HW2).mono ?_
              rintro e w6 ⟨rfl, hR6⟩
              have HR6 := hide hR6
              clear hR6 d1 d2 d3
              go_wp2_with fail
              go_roundg (n - (k + 1))
              case measure => rw [unhide HG]; omega
              case rel => exact ⟨k + 1, (max (ck : Int) xa).toNat, tk, rf, m, cl, al, rfl, rfl, rfl, by rw [← (unhide HCV)], by go_num, rfl, by omega, unhide HR6⟩
        have j5 : (kk == 5) = false := by simp [k5]
        have HR5 := hide ((unhide HOp).2.2.2.2.2)
        clear HOp
        go_wp2_with fail
        go_roundg (n - (k + 1))
        case measure => rw [unhide HG]; omega
        case rel => exact ⟨k + 1, ck, tk, rf, m, cl, al, rfl, rfl, rfl, rfl, by go_num, rfl, by omega, unhide HR5⟩
      · have hki : ¬ (k : Int) < (n : Int) := by omega
        have hkn' : k = n := by omega
        have HRn : Hid (R b n ck tk rf al m cl wr) := by rw [← hkn']; exact unhide HRk
        clear hkn'
        go_wp2_with fail
        refine (unhide HE _ _ _ _ _ _ _ _ (unhide HRn)).mono ?_
        rintro e w5 ⟨rfl, hp⟩
        have HPo := hide hp
        clear hp
        go_wp2_with fail
        go_ret
        exact ⟨rfl, unhide HPo⟩
end Go.Proofs.YtogdekjklbbbiaaDoor
