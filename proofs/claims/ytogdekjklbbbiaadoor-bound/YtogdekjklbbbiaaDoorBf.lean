import Derived.Test.YtogdekjklbbbiaaDoorBac
import Derived.Test.YtogdekjklbbbiaaDoorSmr
import Derived.Test.YtogdekjklbbbiaaDoorSpb
import Derived.Deep.RegionHeld3
set_option maxRecDepth 100000
namespace Go.Proofs.YtogdekjklbbbiaaDoor
open Go.ChangeShapes Go.WideShapes Go.ChangeAt Go.RowKit
set_option linter.unusedSimpArgs false
set_option linter.unusedVariables false

/-- What the Polls told, in memory: by their numbers. -/
structure SV (w : World) (T : Nat) (a0 a1 a2 a3 : Option Addr) (ra rb ry : Nat → Option Addr) (rc bc yc : Nat → Nat) (E : Nat → Pace.En) : Prop where
  ck : ∀ i, i < T → ∃ g o, a0 = some ⟨g, o, none⟩ ∧ w.cell? ⟨g, o + i, none⟩ = some (.int .i64 ((E i).ck : Int))
  r : ∀ i, i < T → ∃ g o, a1 = some ⟨g, o, none⟩ ∧ w.cell? ⟨g, o + i, none⟩ = some (.slice (ra i) (E i).n (rc i))
  b : ∀ i, i < T → ∃ g o, a2 = some ⟨g, o, none⟩ ∧ w.cell? ⟨g, o + i, none⟩ = some (.slice (rb i) (E i).n (bc i))
  y : ∀ i, i < T → ∃ g o, a3 = some ⟨g, o, none⟩ ∧ w.cell? ⟨g, o + i, none⟩ = some (.slice (ry i) (E i).n (yc i))
  rr : ∀ i f, i < T → f < (E i).n → ∃ g o, ra i = some ⟨g, o, none⟩ ∧ w.cell? ⟨g, o + f, none⟩ = some (.int .i64 ((E i).rt f : Int))
  bb : ∀ i f, i < T → f < (E i).n → ∃ g o, rb i = some ⟨g, o, none⟩ ∧ w.cell? ⟨g, o + f, none⟩ = some (.int .i64 ((E i).bu f : Int))
  yy : ∀ i f, i < T → f < (E i).n → ∃ g o, ry i = some ⟨g, o, none⟩ ∧ w.cell? ⟨g, o + f, none⟩ = some (.int .i64 ((E i).bt f : Int))
theorem bel_cell {w w' : World} (h : Below w.heap.size w w') {g o : Nat} {v : Value} (hc : w.cell? ⟨g, o, none⟩ = some v) : w'.cell? ⟨g, o, none⟩ = some v :=
  (h.cell (p := ⟨g, o, none⟩) (World.block_lt_of_cell? _ _ hc)).trans hc
theorem SV.kept {w w' : World} {T : Nat} {a0 a1 a2 a3 : Option Addr} {ra rb ry : Nat → Option Addr} {rc bc yc : Nat → Nat} {E : Nat → Pace.En} (h : SV w T a0 a1 a2 a3 ra rb ry rc bc yc E) (hb : Below w.heap.size w w') : SV w' T a0 a1 a2 a3 ra rb ry rc bc yc E := by
  refine ⟨fun i hi => ?_, fun i hi => ?_, fun i hi => ?_, fun i hi => ?_, fun i f hi hf => ?_, fun i f hi hf => ?_, fun i f hi hf => ?_⟩
  · obtain ⟨g, o, e, hc⟩ := h.ck i hi; exact ⟨g, o, e, bel_cell hb hc⟩
  · obtain ⟨g, o, e, hc⟩ := h.r i hi; exact ⟨g, o, e, bel_cell hb hc⟩
  · obtain ⟨g, o, e, hc⟩ := h.b i hi; exact ⟨g, o, e, bel_cell hb hc⟩
  · obtain ⟨g, o, e, hc⟩ := h.y i hi; exact ⟨g, o, e, bel_cell hb hc⟩
  · obtain ⟨g, o, e, hc⟩ := h.rr i f hi hf; exact ⟨g, o, e, bel_cell hb hc⟩
  · obtain ⟨g, o, e, hc⟩ := h.bb i f hi hf; exact ⟨g, o, e, bel_cell hb hc⟩
  · obtain ⟨g, o, e, hc⟩ := h.yy i f hi hf; exact ⟨g, o, e, bel_cell hb hc⟩
/-- What holds of what the Polls told. -/
structure ER (T : Nat) (E : Nat → Pace.En) (L : List Pace.En) : Prop where
  len : L.length = T
  eq : ∀ i, i < T → Pace.at' L i = E i
  mono : ∀ i j, i ≤ j → j < T → (E i).n ≤ (E j).n
  cks : ∀ i, i + 1 < T → (E i).ck ≤ (E (i + 1)).ck
  all : ∀ i d f, i + d < T → f < (E i).n → Pace.sm L i f d * Pace.parts ≤ Pace.rm L i f d
  lim : ∀ i, i < T → ∀ f, f < (E i).n → (E i).rt f ≤ 1000000000 ∧ (E i).bu f ≤ 1000000
  ckm : ∀ i, i < T → (E i).ck ≤ 4000000000000000000
theorem rm_next {T : Nat} {E : Nat → Pace.En} {L : List Pace.En} (h : ER T E L) {i f e : Nat} (hd : i + e + 1 < T) : Pace.rm L i f (e + 1) = Pace.rm L i f e + (E (i + e)).rt f * ((E (i + e + 1)).ck - (E (i + e)).ck) := by
  simp only [Pace.rm]
  rw [h.eq _ (by omega), h.eq _ hd]
theorem sm_next {T : Nat} {E : Nat → Pace.En} {L : List Pace.En} (h : ER T E L) {i f e : Nat} (hd : i + e + 1 < T) : Pace.sm L i f (e + 1) = Pace.sm L i f e + (E (i + e + 1)).bt f := by
  simp only [Pace.sm]
  rw [h.eq _ hd]
theorem rm_zero {T : Nat} {E : Nat → Pace.En} {L : List Pace.En} (h : ER T E L) {i f : Nat} (hd : i < T) : Pace.rm L i f 0 = (E i).bu f * 1000000000 := by
  simp only [Pace.rm]
  rw [h.eq _ hd, Pace.parts_eq]
theorem sm_zero {T : Nat} {E : Nat → Pace.En} {L : List Pace.En} (h : ER T E L) {i f : Nat} (hd : i < T) : Pace.sm L i f 0 = (E i).bt f := by
  simp only [Pace.sm]
  rw [h.eq _ hd]
theorem sm_fits {T : Nat} {E : Nat → Pace.En} {L : List Pace.En} (h : ER T E L) {i f d : Nat} (hd : i + d < T) (hf : f < (E i).n) : Pace.sm L i f d ≤ Pace.rm L i f d / 1000000000 := by
  have := h.all i d f hd hf
  rw [Pace.parts_eq] at this
  omega
theorem acc_most {R x t : Nat} (hR : R < 9223372036854775807) : acc (R : Int) (x : Int) 9223372036854775807 (t : Int) = if 9223372036854775807 ≤ R + x * t then 9223372036854775807 else ((R + x * t : Nat) : Int) := by
  unfold acc
  rw [if_neg (by omega)]
  have e : ((R + x * t : Nat) : Int) = (R : Int) + (x : Int) * (t : Int) := by push_cast; rfl
  by_cases hm : 9223372036854775807 ≤ R + x * t
  · rw [if_pos hm]
    split
    · rfl
    · omega
  · rw [if_neg hm, if_neg (by omega), e]
theorem div_fits {R S b : Nat} (h : S + b ≤ R / 1000000000) : decide ((R : Int) / 1000000000 < (S : Int) + (b : Int)) = false := decide_eq_false (by omega)
theorem div_fits0 {R b : Nat} (h : b ≤ R / 1000000000) : decide ((R : Int) / 1000000000 < (b : Int)) = false := decide_eq_false (by omega)
set_option maxHeartbeats 4000000 in
theorem bound_walk (q : Int) (sa : Option Addr) (n cp : Nat) (w : World) (Ra : World → Prop) (Post : World → Prop)
    (hAl : Calls Tryd.prog 17 #[] w fun e w' => e = .returned (.bool true) ∧ Ra w')
    (hW : ∀ w1, Ra w1 → Calls Tryd.prog 18 #[.int .i64 q, .slice sa n cp] w1 fun e w' => ∃ T a0 c0 a1 c1 a2 c2 a3 c3 ra rb ry rc bc yc E L, e = .returned (.tuple #[.agg #[.slice a0 T c0, .slice a1 T c1, .slice a2 T c2, .slice a3 T c3], .bool true]) ∧ T < 8796093022208 ∧ SV w' T a0 a1 a2 a3 ra rb ry rc bc yc E ∧ ER T E L ∧ (∀ i, i < T → (E i).n < 8796093022208) ∧ ∀ w'', Below w'.heap.size w' w'' → Post w'') :
    Calls Tryd.prog 5 #[.int .i64 q, .slice sa n cp] w fun e w' => e = .returned (.bool true) ∧ Post w' := by
  have HAl := hide hAl; have HW := hide hW
  clear hAl hW
  go_enter Tryd.func5, Tryd.ntmps5
  go_wp2_with fail
  refine (unhide HAl).mono ?_
  rintro e w1 ⟨rfl, hw1⟩
  have HW1 := hide (unhide HW _ hw1)
  clear hw1
  go_wp2_with fail
  refine (unhide HW1).mono ?_
  rintro e w2 ⟨T, a0, c0, a1, c1, a2, c2, a3, c3, ra, rb, ry, rc, bc, yc, E, L, rfl, hT, hSV, hER, hnn, hpost⟩
  have HSV := hide hSV; have HER := hide hER; have HNN := hide hnn; have HPost := hide hpost
  clear hSV hER hnn hpost
  have HB0 : Hid (Below w2.heap.size w2 (w2.alloc (.cells #[.slice a0 T c0, .slice a1 T c1, .slice a2 T c2, .slice a3 T c3] 45))) := (Below.refl _ _).alloc (Nat.le_refl _) _
  obtain ⟨z, hz⟩ : ∃ z, z = w2.heap.size := ⟨_, rfl⟩
  have HZC : Hid ((w2.alloc (.cells #[.slice a0 T c0, .slice a1 T c1, .slice a2 T c2, .slice a3 T c3] 45)).heap[z]? = some (.cells #[.slice a0 T c0, .slice a1 T c1, .slice a2 T c2, .slice a3 T c3] 45)) := by rw [hz]; exact heap_alloc_new _ _
  have HZ := hide hz
  clear hz
  go_wp2_with fail
  rw [← (unhide HZ)]
  generalize (w2.alloc (.cells #[.slice a0 T c0, .slice a1 T c1, .slice a2 T c2, .slice a3 T c3] 45)) = W at HB0 HZC ⊢
  have HV : Hid (SV W T a0 a1 a2 a3 ra rb ry rc bc yc E) := (unhide HSV).kept (unhide HB0)
  have HZ2 : Hid (∀ wr, Below W.heap.size W wr → wr.cell? ⟨z, 0, none⟩ = some (.slice a0 T c0) ∧ wr.cell? ⟨z, 1, none⟩ = some (.slice a1 T c1) ∧ wr.cell? ⟨z, 2, none⟩ = some (.slice a2 T c2) ∧ wr.cell? ⟨z, 3, none⟩ = some (.slice a3 T c3)) := fun wr h =>
    ⟨bel_cell h (by rw [heap_cell (unhide HZC)]; rfl), bel_cell h (by rw [heap_cell (unhide HZC)]; rfl), bel_cell h (by rw [heap_cell (unhide HZC)]; rfl), bel_cell h (by rw [heap_cell (unhide HZC)]; rfl)⟩
  go_loopg [7] T (fun gk vi wr => ∃ i : Nat, vi = .int .i64 (i : Int) ∧ gk = T - i ∧ i ≤ T ∧ Below W.heap.size W wr)
  case atStart => exact ⟨0, rfl, rfl, Nat.zero_le _, Below.refl _ _⟩
  case round =>
    obtain ⟨i, hu, hgk, hin, hbl⟩ := hrel
    rw [hu]
    clear hu
    have HG := hide hgk; have HBl := hide hbl
    obtain ⟨z0, z1, z2, z3⟩ := unhide HZ2 wr hbl
    clear hgk hbl
    by_cases hi : i < T
    · have hii : (i : Int) < (T : Int) := by omega
      have hi0 : (0 : Int) ≤ (i : Int) := by omega
      go_wp2_with fail
      go_loopg [8] (E i).n (fun gk vf wr => ∃ f : Nat, vf = .int .i64 (f : Int) ∧ gk = (E i).n - f ∧ f ≤ (E i).n ∧ Below W.heap.size W wr)
      case atStart => exact ⟨0, rfl, rfl, Nat.zero_le _, unhide HBl⟩
      case round =>
        obtain ⟨f, hu, hgf, hfn, hbl⟩ := hrel
        rw [hu]
        clear hu z0 z1 z2 z3
        have HGF := hide hgf; have HBl2 := hide hbl
        obtain ⟨z0, z1, z2, z3⟩ := unhide HZ2 wr hbl
        have hSV := (unhide HV).kept hbl
        obtain ⟨g1, o1, hg1, d1⟩ := hSV.r i hi
        have hnn := unhide HNN i hi
        clear hgf hbl
        by_cases hf : f < (E i).n
        · have hff : (f : Int) < ((E i).n : Int) := by omega
          have hf0 : (0 : Int) ≤ (f : Int) := by omega
          obtain ⟨g2, o2, hg2, d2⟩ := hSV.b i hi
          obtain ⟨g3, o3, hg3, d3⟩ := hSV.bb i f hi hf
          obtain ⟨_, hbu⟩ := (unhide HER).lim i hi f hf
          rw [hg1] at z1
          rw [hg2] at z2
          rw [hg3] at d2
          have W1 := hide (wrapI (v := ((E i).bu f : Int) * 1000000000) (by omega) (by omega))
          clear hSV hg1 hg2 hg3
          go_wp2_with fail
          go_loopg [9, 10, 11] (T - i) (fun gk vr vs vj wr => ∃ d R S : Nat, vr = .int .i64 (R : Int) ∧ vs = .int .i64 (S : Int) ∧ vj = .int .i64 ((i + d : Nat) : Int) ∧ gk = T - i - d ∧ i + d ≤ T ∧ R = Pace.rm L i f (d - 1) ∧ S = (if d = 0 then 0 else Pace.sm L i f (d - 1)) ∧ R < 9223372036854775807 ∧ Below W.heap.size W wr)
          case atStart => exact ⟨0, (E i).bu f * 1000000000, 0, by congr 1, rfl, rfl, rfl, by omega, (rm_zero (unhide HER) hi).symm, rfl, by omega, unhide HBl2⟩
          case round =>
            obtain ⟨d, R, S, hvr, hvs, hvj, hgd, hdT, hR, hS, hRm, hbl⟩ := hrel
            rw [hvr, hvs, hvj]
            clear hvr hvs hvj z0 z1 z2 z3 d1 d2 d3
            have HGD := hide hgd; have HBl3 := hide hbl; have HR := hide hR; have HS := hide hS
            obtain ⟨z0, z1, z2, z3⟩ := unhide HZ2 wr hbl
            have hSV := (unhide HV).kept hbl
            clear hgd hR hS
            by_cases hd : i + d < T
            · have hdi : ((i + d : Nat) : Int) < (T : Int) := by omega
              have hd0 : (0 : Int) ≤ ((i + d : Nat) : Int) := by omega
              have hfd : f < (E (i + d)).n := Nat.lt_of_lt_of_le hf ((unhide HER).mono i (i + d) (by omega) hd)
              have hffd : (f : Int) < ((E (i + d)).n : Int) := by omega
              obtain ⟨g4, o4, hg4, d4⟩ := hSV.y (i + d) hd
              obtain ⟨g5, o5, hg5, d5⟩ := hSV.yy (i + d) f hd hfd
              have hfit := sm_fits (unhide HER) hd hf
              rw [hg4] at z3
              rw [hg5] at d4
              cases d with
              | zero =>
                have hbr : decide ((i : Int) < (i : Int)) = false := by simp
                obtain rfl : S = 0 := by rw [unhide HS]; rfl
                have hne : ((R : Int) == 9223372036854775807) = false := by simp; omega
                have hsum : (E i).bt f = Pace.sm L i f 0 := (sm_zero (unhide HER) hi).symm
                have hR0 : R = Pace.rm L i f 0 := unhide HR
                rw [← hR0, ← hsum] at hfit
                have hcmp := div_fits0 hfit
                have hsm : (E i).bt f < 10000000000 := by omega
                have HSum := hide hsum; have HR0 := hide hR0
                rw [Nat.add_zero] at d4 d5 hdi hd0 hffd
                rw [Nat.add_zero]
                clear hSV hg4 hg5 hbl hsum hfit hR0 HR HS
                go_wp2_with fail
                go_roundg (T - i - 1)
                case measure => rw [unhide HGD]; omega
                case rel => exact ⟨1, R, (E i).bt f, rfl, rfl, by go_num, rfl, by omega, unhide HR0, unhide HSum, hRm, unhide HBl3⟩
              | succ e =>
                have hS1 : S = Pace.sm L i f e := by rw [unhide HS]; rfl
                have hR1 : R = Pace.rm L i f e := unhide HR
                have hTe : i + e < T := by omega
                have hTe1 : i + e + 1 < T := hd
                have hfe : f < (E (i + e)).n := Nat.lt_of_lt_of_le hf ((unhide HER).mono i (i + e) (by omega) hTe)
                have hffe : (f : Int) < ((E (i + e)).n : Int) := by omega
                obtain ⟨g6, o6, hg6, d6⟩ := hSV.r (i + e) hTe
                obtain ⟨g7, o7, hg7, d7⟩ := hSV.rr (i + e) f hTe hfe
                obtain ⟨g8, o8, hg8, d8⟩ := hSV.ck (i + e) hTe
                obtain ⟨g9, o9, hg9, d9⟩ := hSV.ck (i + e + 1) hTe1
                rw [hg8] at hg9
                injection hg9 with hg9
                injection hg9 with ea eo _
                subst ea eo
                rw [hg6] at z1
                rw [hg7] at d6
                rw [hg8] at z0
                have hckle := (unhide HER).cks (i + e) hTe1
                have hckm := (unhide HER).ckm (i + e + 1) hTe1
                obtain ⟨hrt, _⟩ := (unhide HER).lim (i + e) hTe f hfe
                have hrm := rm_next (unhide HER) (f := f) hTe1
                have hsm := sm_next (unhide HER) (f := f) hTe1
                rw [← hR1] at hrm
                rw [← hS1] at hsm
                rw [hrm, hsm] at hfit
                obtain ⟨P, hP⟩ : ∃ P, P = i + e := ⟨_, rfl⟩
                have e1 : i + (e + 1) = P + 1 := by omega
                have e2 : i + e + 1 = P + 1 := by omega
                rw [e1] at d4 d5 hdi hd0 hffd
                rw [e1]
                rw [e2] at d9 hckle hckm hrm hsm hfit
                rw [← hP] at d6 d7 d8 hffe hckle hrt hrm hfit
                have hPi : (i : Int) < (P : Int) + 1 := by omega
                have hP0 : (0 : Int) ≤ (P : Int) := by omega
                have hPT : (P : Int) < (T : Int) := by omega
                have hPT1 : (P : Int) + 1 < (T : Int) := by omega
                have hP10 : (0 : Int) ≤ (P : Int) + 1 := by omega
                have HPe := hide hP
                obtain ⟨tm, htm⟩ : ∃ tm, tm = (E (P + 1)).ck - (E P).ck := ⟨_, rfl⟩
                have htmi : ((E (P + 1)).ck : Int) - ((E P).ck : Int) = (tm : Int) := by omega
                rw [← htm] at hrm hfit
                have HAcc := hide (fun w => accrueref_any (R : Int) ((E P).rt f : Int) 9223372036854775807 (tm : Int) ⟨by omega, by omega⟩ ⟨by omega, by omega⟩ ⟨by omega, by omega⟩ ⟨by omega, by omega⟩ w)
                rw [acc_most hRm] at HAcc
                have HRm := hide hrm; have HSm := hide hsm; have HFit := hide hfit
                generalize hck1 : (E (P + 1)).ck = k1 at d9 htmi hckm hckle htm
                generalize hck0 : (E P).ck = k0 at d8 htmi hckle htm
                have W1 := hide (wrapI (v := (k1 : Int) - (k0 : Int)) (by omega) (by omega))
                clear hSV hg4 hg5 hg6 hg7 hg8 hbl hrm hsm hfit hR1 hS1 HR HS hck1 hck0 hP e1 e2 htm z2
                have hS0 : wr.cell? ⟨z, 0, none⟩ = some (.slice (some ⟨g8, o8, none⟩) T c0) ∧ wr.cell? ⟨z, 1, none⟩ = some (.slice (some ⟨g6, o6, none⟩) T c1) ∧ wr.cell? ⟨g6, o6 + P, none⟩ = some (.slice (some ⟨g7, o7, none⟩) (E P).n (rc P)) ∧ wr.cell? ⟨g7, o7 + f, none⟩ = some (.int .i64 ((E P).rt f : Int)) ∧ wr.cell? ⟨g8, o8 + P, none⟩ = some (.int .i64 (k0 : Int)) ∧ wr.cell? ⟨g8, o8 + (P + 1), none⟩ = some (.int .i64 (k1 : Int)) := ⟨z0, z1, d6, d7, d8, d9⟩
                have hw1 : IntKind.i64.wrap ((k1 : Int) - (k0 : Int)) = (tm : Int) := by rw [unhide W1]; exact htmi
                have hw2 : IntKind.i64.wrap ((P : Int) + 1 - 1) = (P : Int) := by rw [wrapI (by omega) (by omega)]; omega
                have hw3 : IntKind.i64.wrap (P : Int) = (P : Int) := wrapI (by omega) (by omega)
                have hw4 : IntKind.i64.wrap (((P + 1 : Nat) : Int) - 1) = (P : Int) := by rw [wrapI (by omega) (by omega)]; omega
                obtain ⟨R2, hR2⟩ : ∃ R2, R2 = R + (E P).rt f * tm := ⟨_, rfl⟩
                rw [← hR2] at HAcc HRm HFit
                have hfit := unhide HFit
                have HZZ := hide (And.intro z3 (And.intro d4 d5))
                clear hR2 HFit htmi
                by_cases hm : 9223372036854775807 ≤ R2
                · rw [if_pos hm] at HAcc
                  go_wp2_with fail
                  go_region_held3 (fun W => W.cell? ⟨z, 0, none⟩ = some (.slice (some ⟨g8, o8, none⟩) T c0) ∧ W.cell? ⟨z, 1, none⟩ = some (.slice (some ⟨g6, o6, none⟩) T c1) ∧ W.cell? ⟨g6, o6 + P, none⟩ = some (.slice (some ⟨g7, o7, none⟩) (E P).n (rc P)) ∧ W.cell? ⟨g7, o7 + f, none⟩ = some (.int .i64 ((E P).rt f : Int)) ∧ W.cell? ⟨g8, o8 + P, none⟩ = some (.int .i64 (k0 : Int)) ∧ W.cell? ⟨g8, o8 + (P + 1), none⟩ = some (.int .i64 (k1 : Int))) (first | exact hS0 | exact hS1)
                    (first | (go_at_call 19; refine (unhide HAcc _).mono ?_; rintro e w3 ⟨rfl, hb3⟩; have HB3 := hide hb3; have hS1 := (And.intro (bel_cell hb3 hS0.1) (And.intro (bel_cell hb3 hS0.2.1) (And.intro (bel_cell hb3 hS0.2.2.1) (And.intro (bel_cell hb3 hS0.2.2.2.1) (And.intro (bel_cell hb3 hS0.2.2.2.2.1) (bel_cell hb3 hS0.2.2.2.2.2)))))); clear hb3))
                  all_goals
                    clear hS1
                    go_wp2_with fail
                    go_roundg ((E i).n - (f + 1))
                    case measure => rw [unhide HGF]; omega
                    case rel =>
                      refine ⟨f + 1, by go_num, rfl, by omega, ?_⟩
                      first
                        | exact bel_trans (unhide HBl3) (unhide HB3)
                        | exact bel_trans ((unhide HBl3).drew) (unhide HB3)
                        | exact bel_trans (bel_drewN (unhide HBl3) _) (unhide HB3)
                · rw [if_neg hm] at HAcc
                  have hne : ((R2 : Int) == 9223372036854775807) = false := by simp; omega
                  have hcmp := div_fits hfit
                  have hsb : (S : Int) + ((E (P + 1)).bt f : Int) < 10000000000 := by omega
                  have hsb0 : (0 : Int) ≤ (S : Int) + ((E (P + 1)).bt f : Int) := by omega
                  have HFit := hide hfit
                  clear hfit
                  go_wp2_with fail
                  go_region_held3 (fun W => W.cell? ⟨z, 0, none⟩ = some (.slice (some ⟨g8, o8, none⟩) T c0) ∧ W.cell? ⟨z, 1, none⟩ = some (.slice (some ⟨g6, o6, none⟩) T c1) ∧ W.cell? ⟨g6, o6 + P, none⟩ = some (.slice (some ⟨g7, o7, none⟩) (E P).n (rc P)) ∧ W.cell? ⟨g7, o7 + f, none⟩ = some (.int .i64 ((E P).rt f : Int)) ∧ W.cell? ⟨g8, o8 + P, none⟩ = some (.int .i64 (k0 : Int)) ∧ W.cell? ⟨g8, o8 + (P + 1), none⟩ = some (.int .i64 (k1 : Int))) (first | exact hS0 | exact hS1)
                    (first | (go_at_call 19; refine (unhide HAcc _).mono ?_; rintro e w3 ⟨rfl, hb3⟩; have HB3 := hide hb3; have hS1 := (And.intro (bel_cell hb3 hS0.1) (And.intro (bel_cell hb3 hS0.2.1) (And.intro (bel_cell hb3 hS0.2.2.1) (And.intro (bel_cell hb3 hS0.2.2.2.1) (And.intro (bel_cell hb3 hS0.2.2.2.2.1) (bel_cell hb3 hS0.2.2.2.2.2)))))); clear hb3))
                  all_goals
                    clear hS1 z3 d4 d5
                    have z3 := bel_cell (unhide HB3) (unhide HZZ).1
                    have d4 := bel_cell (unhide HB3) (unhide HZZ).2.1
                    have d5 := bel_cell (unhide HB3) (unhide HZZ).2.2
                    go_wp2_with fail
                    go_roundg (T - i - (e + 2))
                    case measure => rw [unhide HGD]; omega
                    case rel =>
                      refine ⟨e + 2, R2, S + (E (P + 1)).bt f, rfl, by rw [Int.natCast_add], ?_, rfl, by omega, (unhide HRm).symm, ?_, by omega, ?_⟩
                      · have := unhide HPe
                        congr 1
                        omega
                      · rw [if_neg (by omega)]
                        exact (unhide HSm).symm
                      · first
                        | exact bel_trans (unhide HBl3) (unhide HB3)
                        | exact bel_trans ((unhide HBl3).drew) (unhide HB3)
                        | exact bel_trans (bel_drewN (unhide HBl3) _) (unhide HB3)
            · have hdi : ¬ ((i + d : Nat) : Int) < (T : Int) := by omega
              clear hSV hbl
              go_wp2_with fail
              go_roundg ((E i).n - (f + 1))
              case measure => rw [unhide HGF]; omega
              case rel => exact ⟨f + 1, by go_num, rfl, by omega, unhide HBl3⟩
        · have hff : ¬ (f : Int) < ((E i).n : Int) := by omega
          rw [hg1] at z1
          clear hSV hg1
          go_wp2_with fail
          go_roundg (T - (i + 1))
          case measure => rw [unhide HG]; omega
          case rel => exact ⟨i + 1, by go_num, rfl, by omega, unhide HBl2⟩
    · have hii : ¬ (i : Int) < (T : Int) := by omega
      go_wp2_with fail
      go_ret
      refine ⟨rfl, unhide HPost _ ?_⟩
      exact bel_trans (unhide HB0) (unhide HBl)
end Go.Proofs.YtogdekjklbbbiaaDoor
