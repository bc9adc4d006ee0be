import Derived.Test.YtogdekjklbbbiaaDoorPac
import Derived.Deep.LoopGhost
import Derived.Deep.RegionHeld3
set_option maxRecDepth 100000
namespace Go.Proofs.YtogdekjklbbbiaaDoor
open Go.ChangeShapes Go.WideShapes Go.ChangeAt Go.RowKit
set_option linter.unusedSimpArgs false
set_option linter.unusedVariables false

theorem cells6 {W : World} {z : Nat} {v0 v1 v2 v3 v4 v5 : Value} {t : TypeId} (h : W.heap[z]? = some (.cells #[v0, v1, v2, v3, v4, v5] t)) :
    W.cell? ⟨z, 1, none⟩ = some v1 ∧ W.cell? ⟨z, 2, none⟩ = some v2 ∧ W.cell? ⟨z, 3, none⟩ = some v3 := by
  refine ⟨?_, ?_, ?_⟩ <;> simp [World.cell?, h]
/-- One command of a script. -/
structure OpV where
  k : Int
  a : Int
  b : Int
  c : Int
  w : Int
  sa : Option Addr
  sn : Nat
  sc : Nat
def OpV.obj (o : OpV) : Obj := .cells #[.int .i64 o.k, .int .i64 o.a, .int .i64 o.b, .int .i64 o.c, .int .i64 o.w, .slice o.sa o.sn o.sc] 56

set_option maxHeartbeats 4000000 in
theorem prompt_walk (q : Int) (sa : Option Addr) (n cp : Nat) (w : World) (hb : n < 8796093022208) (hsa : 0 < n → ∃ g o, sa = some ⟨g, o, none⟩) (op : Nat → OpV)
    (Ra : World → Prop) (R : Nat → Nat → Nat → World → Prop) (RP : Nat → Nat → Nat → Nat → World → Prop) (R1 R2 : Nat → Nat → World → Prop) (R3 R4 : Nat → Int → World → Prop) (Post : World → Prop)
    (hAl : Calls Tryd.prog 17 #[] w fun e w' => e = .returned (.bool true) ∧ Ra w')
    (hN : ∀ w1, Ra w1 → Calls Tryd.prog 20 #[.int .i64 q] w1 fun e w' => (e = .returned (.tuple #[.pointer none, .int .i64 1]) ∧ (q < 1500 ∨ 1000000 < q) ∧ Post w') ∨ ∃ b, e = .returned (.tuple #[.pointer (some ⟨b, 0, none⟩), .int .i64 0]) ∧ R b 0 0 w')
    (hC : ∀ b k ck wr, R b k ck wr → k < n → ck < 9000000000000000000 ∧ ∀ g o, sa = some ⟨g, o, none⟩ → wr.cell? ⟨g, o + k * 6, none⟩ = some (.int .i64 (op k).k) ∧ wr.cell? ⟨g, o + k * 6 + 1, none⟩ = some (.int .i64 (op k).a) ∧ wr.cell? ⟨g, o + k * 6 + 2, none⟩ = some (.int .i64 (op k).b) ∧ wr.cell? ⟨g, o + k * 6 + 3, none⟩ = some (.int .i64 (op k).c) ∧ wr.cell? ⟨g, o + k * 6 + 4, none⟩ = some (.int .i64 (op k).w) ∧ wr.cell? ⟨g, o + k * 6 + 5, none⟩ = some (.slice (op k).sa (op k).sn (op k).sc))
    (hA : ∀ b k ck wr, R b k ck wr → k < n → (op k).k = 1 → Calls Tryd.prog 21 #[.pointer (some ⟨b, 0, none⟩), .int .i64 (op k).a, .int .i64 (op k).b] (wr.alloc (op k).obj) fun e w' => ∃ v1 v2 : Int, e = .returned (.tuple #[.int .i64 v1, .int .i64 v2]) ∧ R b (k + 1) ck w' ∧ w'.heap[wr.heap.size]? = some (op k).obj)
    (hS : ∀ b k ck wr, R b k ck wr → k < n → (op k).k = 2 → Calls Tryd.prog 22 #[.pointer (some ⟨b, 0, none⟩), .int .i64 (op k).a, .int .i64 (op k).b, .int .i64 (op k).c] (wr.alloc (op k).obj) fun e w' => ∃ v2 : Int, e = .returned (.int .i64 v2) ∧ R b (k + 1) ck w' ∧ w'.heap[wr.heap.size]? = some (op k).obj)
    (hQ : ∀ b k ck wr, R b k ck wr → k < n → (op k).k = 3 → Calls Tryd.prog 23 #[.pointer (some ⟨b, 0, none⟩), .int .i64 (op k).a, .int .i64 (op k).b, .int .i64 (op k).c] (wr.alloc (op k).obj) fun e w' => ∃ v2 : Int, e = .returned (.int .i64 v2) ∧ R b (k + 1) ck w' ∧ w'.heap[wr.heap.size]? = some (op k).obj)
    (hM : ∀ b k ck wr, R b k ck wr → k < n → (op k).k = 4 → Calls Tryd.prog 24 #[.pointer (some ⟨b, 0, none⟩), .int .i64 (op k).a] (wr.alloc (op k).obj) fun e w' => ∃ v v2, e = .returned (.tuple #[v, .int .i64 v2]) ∧ R b (k + 1) ck w' ∧ w'.heap[wr.heap.size]? = some (op k).obj)
    (hPo : ∀ b k ck wr, R b k ck wr → k < n → (op k).k = 5 → Calls Tryd.prog 25 #[.pointer (some ⟨b, 0, none⟩), .int .i64 (op k).a, .int .i64 (op k).b] (wr.alloc (op k).obj) fun e w' => w'.heap[wr.heap.size]? = some (op k).obj ∧ ((∃ v, e = .returned (.tuple #[v, .int .i64 1]) ∧ R b (k + 1) ck w') ∨
      ∃ a m c, e = .returned (.tuple #[.slice a m c, .int .i64 0]) ∧ RP b k (max (ck : Int) (op k).a).toNat m w'))
    (hX : ∀ b k ck m wr, RP b k ck m wr → k < n → Calls Tryd.prog 26 #[.pointer (some ⟨b, 0, none⟩)] wr fun e w' => ∃ v : Int, e = .returned (.int .i64 v) ∧ ((m : Int) < (op k).b → v = -1 ∨ (ck : Int) < v) ∧ R b (k + 1) ck w' ∧ ∀ z, z < wr.heap.size → w'.heap[z]? = wr.heap[z]?)
    (hOth : ∀ b k ck wr, R b k ck wr → k < n → R b (k + 1) ck (wr.alloc (op k).obj))
    (hPe : ∀ b ck wr, R b n ck wr → Calls Tryd.prog 25 #[.pointer (some ⟨b, 0, none⟩), .int .i64 (ck : Int), .int .i64 64] wr fun e w' => ∃ a m c, e = .returned (.tuple #[.slice a m c, .int .i64 0]) ∧ m ≤ 64 ∧ R1 b ck w')
    (hXe : ∀ b ck wr, R1 b ck wr → Calls Tryd.prog 26 #[.pointer (some ⟨b, 0, none⟩)] wr fun e w' => ∃ v : Int, e = .returned (.int .i64 v) ∧ ((v = -1 ∧ Post w') ∨ ((ck : Int) < v ∧ 4000000000000000000 < v ∧ Post w') ∨ ((ck : Int) < v ∧ 0 ≤ v ∧ v ≤ 4000000000000000000 ∧ R3 b v w')))
    (hEa : ∀ b v wr, R3 b v wr → Calls Tryd.prog 25 #[.pointer (some ⟨b, 0, none⟩), .int .i64 (v - 1), .int .i64 9] wr fun e w' => ∃ a c v2, e = .returned (.tuple #[.slice a 0 c, .int .i64 v2]) ∧ R4 b v w')
    (hLa : ∀ b v wr, R4 b v wr → Calls Tryd.prog 25 #[.pointer (some ⟨b, 0, none⟩), .int .i64 v, .int .i64 9] wr fun e w' => ∃ (g m c : Nat), e = .returned (.tuple #[.slice (some ⟨g, 0, none⟩) m c, .int .i64 0]) ∧ 0 < m ∧ m ≤ 9 ∧ w'.cell? ⟨g, 1, none⟩ = some (.int .i64 v) ∧ Post w') :
    Calls Tryd.prog 6 #[.int .i64 q, .slice sa n cp] w fun e w' => e = .returned (.bool true) ∧ Post w' := by
  have HAl := hide hAl; have HN := hide hN; have HC := hide hC; have HA := hide hA; have HS := hide hS; have HQ := hide hQ; have HM := hide hM; have HPo := hide hPo; have HX := hide hX; have HOth := hide hOth; have HPe := hide hPe; have HXe := hide hXe; have HEa := hide hEa; have HLa := hide hLa; have HSA := hide hsa
  clear hAl hN hC hA hS hQ hM hPo hX hOth hPe hXe hEa hLa hsa
  go_enter Tryd.func6, Tryd.ntmps6
  go_wp2_with fail
  refine (unhide HAl).mono ?_
  rintro e w1 ⟨rfl, hw1⟩
  have HW1 := hide hw1
  clear hw1
  go_wp2_with fail
  refine (unhide HN _ (unhide HW1)).mono ?_
  rintro e w2 (⟨rfl, hq, hp⟩ | ⟨b, rfl, hR⟩)
  · have HP := hide hp
    clear hp
    rcases hq with hq | hq
    · go_wp2_with (first | (go_at_call 12; refine (num_any _ _).mono ?_; rintro e w8 ⟨rfl, rfl⟩))
      all_goals
        go_ret
        exact ⟨rfl, unhide HP⟩
    · have hq' : decide (q < 1500) = false := decide_eq_false (by omega)
      go_wp2_with (first | (go_at_call 12; refine (num_any _ _).mono ?_; rintro e w8 ⟨rfl, rfl⟩))
      all_goals
        go_ret
        exact ⟨rfl, unhide HP⟩
  · have HR := hide hR
    have hnil := eqp_nil w2 b
    clear hR
    go_wp2_with (first | (go_at_call 12; refine (num_any _ _).mono ?_; rintro e w8 ⟨rfl, rfl⟩))
    go_loopg [7, 8] n (fun gk vc vi wr => ∃ k ck : Nat, vc = .int .i64 (ck : Int) ∧ vi = .int .i64 (k : Int) ∧ gk = n - k ∧ k ≤ n ∧ R b k ck wr)
    case atStart => exact ⟨0, 0, rfl, rfl, rfl, Nat.zero_le _, unhide HR⟩
    case round =>
      obtain ⟨k, ck, hvc, hvi, hgk, hkn, hRk⟩ := hrel
      rw [hvc, hvi]
      clear hvc hvi HR hnil
      have HG := hide hgk; have HRk := hide hRk
      clear hgk hRk
      by_cases hk : k < n
      · have hki : (k : Int) < (n : Int) := by omega
        have hk0 : (0 : Int) ≤ (k : Int) := by omega
        obtain ⟨hck, hcs⟩ := unhide HC _ _ _ _ (unhide HRk) hk
        obtain ⟨g, o, rfl⟩ := unhide HSA (by omega)
        obtain ⟨e0, e1, e2, e3, e4, e5⟩ := hcs g o rfl
        have HOp := hide (And.intro (unhide HA b k ck wr (unhide HRk) hk) (And.intro (unhide HS b k ck wr (unhide HRk) hk) (And.intro (unhide HQ b k ck wr (unhide HRk) hk) (And.intro (unhide HM b k ck wr (unhide HRk) hk) (And.intro (unhide HPo b k ck wr (unhide HRk) hk) (And.intro (fun ck' m w' => unhide HX b k ck' m w') (unhide HOth b k ck wr (unhide HRk) hk)))))))
        have HOb : Hid ((op k).obj = .cells #[.int .i64 (op k).k, .int .i64 (op k).a, .int .i64 (op k).b, .int .i64 (op k).c, .int .i64 (op k).w, .slice (op k).sa (op k).sn (op k).sc] 56) := rfl
        generalize (op k).obj = ob at HOp HOb
        generalize (op k).k = kk at HOp HOb e0
        generalize (op k).a = xa at HOp HOb e1
        generalize (op k).b = xb at HOp HOb e2
        generalize (op k).c = xc at HOp HOb e3
        generalize (op k).w = xw at HOp HOb e4
        generalize (op k).sa = s1 at HOp HOb e5
        generalize (op k).sn = s2 at HOp HOb e5
        generalize (op k).sc = s3 at HOp HOb e5
        obtain rfl := unhide HOb
        clear hcs HOb
        by_cases k1 : kk = 1
        · have HCall := hide ((unhide HOp).1 k1)
          subst k1
          clear HOp
          go_wp2_with fail
          refine (unhide HCall).mono ?_
          rintro e w5 ⟨v1, v2, rfl, hR5, hh5⟩
          have HR5 := hide hR5
          clear hR5 hh5
          go_wp2_with fail
          go_roundg (n - (k + 1))
          case measure => rw [unhide HG]; omega
          case rel => exact ⟨k + 1, ck, rfl, by go_num, rfl, by omega, unhide HR5⟩
        have j1 : (kk == 1) = false := by simp [k1]
        by_cases k2 : kk = 2
        · have HCall := hide ((unhide HOp).2.1 k2)
          subst k2
          clear HOp
          go_wp2_with fail
          refine (unhide HCall).mono ?_
          rintro e w5 ⟨v2, rfl, hR5, hh5⟩
          have HR5 := hide hR5
          clear hR5 hh5
          go_wp2_with fail
          go_roundg (n - (k + 1))
          case measure => rw [unhide HG]; omega
          case rel => exact ⟨k + 1, ck, rfl, by go_num, rfl, by omega, unhide HR5⟩
        have j2 : (kk == 2) = false := by simp [k2]
        by_cases k3 : kk = 3
        · have HCall := hide ((unhide HOp).2.2.1 k3)
          subst k3
          clear HOp
          go_wp2_with fail
          refine (unhide HCall).mono ?_
          rintro e w5 ⟨v2, rfl, hR5, hh5⟩
          have HR5 := hide hR5
          clear hR5 hh5
          go_wp2_with fail
          go_roundg (n - (k + 1))
          case measure => rw [unhide HG]; omega
          case rel => exact ⟨k + 1, ck, rfl, by go_num, rfl, by omega, unhide HR5⟩
        have j3 : (kk == 3) = false := by simp [k3]
        by_cases k4 : kk = 4
        · have HCall := hide ((unhide HOp).2.2.2.1 k4)
          subst k4
          clear HOp
          go_wp2_with fail
          refine (unhide HCall).mono ?_
          rintro e w5 ⟨v1, v2, rfl, hR5, hh5⟩
          have HR5 := hide hR5
          clear hR5 hh5
          go_wp2_with fail
          go_roundg (n - (k + 1))
          case measure => rw [unhide HG]; omega
          case rel => exact ⟨k + 1, ck, rfl, by go_num, rfl, by omega, unhide HR5⟩
        have j4 : (kk == 4) = false := by simp [k4]
        by_cases k5 : kk = 5
        · have HCall := hide ((unhide HOp).2.2.2.2.1 k5)
          have HNx := hide ((unhide HOp).2.2.2.2.2.1)
          subst k5
          clear HOp
          go_wp2_with fail
          refine (unhide HCall).mono ?_
          rintro e w5 ⟨hh5, ⟨v, rfl, hR5⟩ | ⟨a, m, c, rfl, hRP⟩⟩
          · have HR5 := hide hR5
            clear hR5 hh5
            go_wp2_with (first | (go_at_call 12; refine (num_any _ _).mono ?_; rintro e w8 ⟨rfl, rfl⟩))
            all_goals
              go_roundg (n - (k + 1))
              case measure => rw [unhide HG]; omega
              case rel => exact ⟨k + 1, ck, rfl, by go_num, rfl, by omega, unhide HR5⟩
          · obtain ⟨d1, d2, d3⟩ := cells6 hh5
            have HRP := hide hRP
            clear hRP
            by_cases hgt : (ck : Int) < xa
            · go_wp2_with (first | (go_at_call 12; refine (num_any _ _).mono ?_; rintro e w8 ⟨rfl, rfl⟩))
              refine (unhide HNx _ _ _ (unhide HRP) hk).mono ?_
              rintro e w6 ⟨v, rfl, hv, hR6, hkp⟩
              clear d1 d2 d3
              have hc6 := cells6 ((hkp wr.heap.size (by have := (Array.getElem?_eq_some_iff.1 hh5).1; omega)).trans hh5)
              obtain ⟨d1, d2, d3⟩ := hc6
              have HR6 := hide hR6
              have HV := hide hv
              clear hR6 hkp hv
              by_cases hm : (m : Int) < xb
              · have hv := unhide HV hm
                by_cases hv1 : v = -1
                · subst hv1
                  by_cases hle : (-1 : Int) ≤ xa
                  · go_wp2_with fail
                    go_roundg (n - (k + 1))
                    case measure => rw [unhide HG]; omega
                    case rel => exact ⟨k + 1, (max (ck : Int) xa).toNat, by (congr 1; omega), by go_num, rfl, by omega, unhide HR6⟩
                  · exact absurd hle (by omega)
                · have hle : decide (v ≤ xa) = false := decide_eq_false (by omega)
                  go_wp2_with fail
                  go_roundg (n - (k + 1))
                  case measure => rw [unhide HG]; omega
                  case rel => exact ⟨k + 1, (max (ck : Int) xa).toNat, by (congr 1; omega), by go_num, rfl, by omega, unhide HR6⟩
              · have hm' : decide ((m : Int) < xb) = false := decide_eq_false hm
                go_wp2_with fail
                go_roundg (n - (k + 1))
                case measure => rw [unhide HG]; omega
                case rel => exact ⟨k + 1, (max (ck : Int) xa).toNat, by (congr 1; omega), by go_num, rfl, by omega, unhide HR6⟩
            · have hgt' : decide ((ck : Int) < xa) = false := decide_eq_false hgt
              go_wp2_with (first | (go_at_call 12; refine (num_any _ _).mono ?_; rintro e w8 ⟨rfl, rfl⟩))
              refine (unhide HNx _ _ _ (unhide HRP) hk).mono ?_
              rintro e w6 ⟨v, rfl, hv, hR6, hkp⟩
              clear d1 d2 d3
              have hc6 := cells6 ((hkp wr.heap.size (by have := (Array.getElem?_eq_some_iff.1 hh5).1; omega)).trans hh5)
              obtain ⟨d1, d2, d3⟩ := hc6
              have HR6 := hide hR6
              have HV := hide hv
              clear hR6 hkp hv
              by_cases hm : (m : Int) < xb
              · have hv := unhide HV hm
                by_cases hv1 : v = -1
                · subst hv1
                  by_cases hle : (-1 : Int) ≤ (ck : Int)
                  · go_wp2_with fail
                    go_roundg (n - (k + 1))
                    case measure => rw [unhide HG]; omega
                    case rel => exact ⟨k + 1, (max (ck : Int) xa).toNat, by (congr 1; omega), by go_num, rfl, by omega, unhide HR6⟩
                  · exact absurd hle (by omega)
                · have hle : decide (v ≤ (ck : Int)) = false := decide_eq_false (by omega)
                  go_wp2_with fail
                  go_roundg (n - (k + 1))
                  case measure => rw [unhide HG]; omega
                  case rel => exact ⟨k + 1, (max (ck : Int) xa).toNat, by (congr 1; omega), by go_num, rfl, by omega, unhide HR6⟩
              · have hm' : decide ((m : Int) < xb) = false := decide_eq_false hm
                go_wp2_with fail
                go_roundg (n - (k + 1))
                case measure => rw [unhide HG]; omega
                case rel => exact ⟨k + 1, (max (ck : Int) xa).toNat, by (congr 1; omega), by go_num, rfl, by omega, unhide HR6⟩
        have j5 : (kk == 5) = false := by simp [k5]
        have HR5 := hide ((unhide HOp).2.2.2.2.2.2)
        clear HOp
        go_wp2_with fail
        go_roundg (n - (k + 1))
        case measure => rw [unhide HG]; omega
        case rel => exact ⟨k + 1, ck, rfl, by go_num, rfl, by omega, unhide HR5⟩
      · have hki : ¬ (k : Int) < (n : Int) := by omega
        have hkn' : k = n := by omega
        have HRn : Hid (R b n ck wr) := by rw [← hkn']; exact unhide HRk
        clear hkn'
        go_wp2_with fail
        refine (unhide HPe _ _ _ (unhide HRn)).mono ?_
        rintro e w5 ⟨a, m, c, rfl, hm, hR1⟩
        have HR1 := hide hR1
        have hm' : decide ((64 : Int) < (m : Int)) = false := decide_eq_false (by omega)
        clear hR1
        go_wp2_with fail
        refine (unhide HXe _ _ _ (unhide HR1)).mono ?_
        rintro e w6 ⟨v, rfl, ⟨rfl, hp⟩ | ⟨hv, hv2, hp⟩ | ⟨hv, hv0, hv2, hR3⟩⟩
        · have HP := hide hp
          clear hp
          have hle : (-1 : Int) ≤ (ck : Int) := by omega
          go_wp2_with (first | (go_at_call 12; refine (num_any _ _).mono ?_; rintro e w8 ⟨rfl, rfl⟩))
          all_goals
            go_ret
            exact ⟨rfl, unhide HP⟩
        · have HP := hide hp
          clear hp
          have hle : decide (v ≤ (ck : Int)) = false := decide_eq_false (by omega)
          have hne : (v == -1) = false := by simp; omega
          go_wp2_with (first | (go_at_call 12; refine (num_any _ _).mono ?_; rintro e w8 ⟨rfl, rfl⟩))
          all_goals
            go_ret
            exact ⟨rfl, unhide HP⟩
        · have HR3 := hide hR3
          clear hR3
          have hle : decide (v ≤ (ck : Int)) = false := decide_eq_false (by omega)
          have hne : (v == -1) = false := by simp; omega
          have hbig : decide (4000000000000000000 < v) = false := decide_eq_false (by omega)
          have hw1 : IntKind.i64.wrap (v - 1) = v - 1 := wrapI (by omega) (by omega)
          go_wp2_with (first | (go_at_call 12; refine (num_any _ _).mono ?_; rintro e w8 ⟨rfl, rfl⟩))
          refine (unhide HEa _ _ _ (unhide HR3)).mono ?_
          rintro e w7 ⟨a1, c1, v2, rfl, hR4⟩
          have HR4 := hide hR4
          clear hR4
          go_wp2_with fail
          refine (unhide HLa _ _ _ (unhide HR4)).mono ?_
          rintro e w8 ⟨g2, m2, c2, rfl, hm0, hm9, hcell, hp⟩
          have HP := hide hp
          clear hp
          have hm2 : (0 : Int) < (m2 : Int) := by omega
          go_wp2_with (first | (go_at_call 12; refine (num_any _ _).mono ?_; rintro e w8 ⟨rfl, rfl⟩))
          all_goals
            go_ret
            exact ⟨rfl, unhide HP⟩
end Go.Proofs.YtogdekjklbbbiaaDoor
