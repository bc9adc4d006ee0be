import Derived.Test.YtogdekjklbbbiaaGreatDoorZ15
import Derived.Deep.QuietTactic
set_option maxRecDepth 100000
namespace Go.Proofs.YtogdekjklbbbiaaGreatDoor
open Go.ChangeShapes Go.WideShapes Go.ChangeAt Go.RowKit
set_option linter.unusedSimpArgs false
set_option linter.unusedVariables false

/-- The cells that arm writes. -/
def S8 (x : Nat) (bb o : Nat) : Prop := bb = x ∧ o = 8
def SArm (x b : Nat) (bb o : Nat) : Prop := (bb = x ∧ (o = 8 ∨ o = 9 ∨ o = 10)) ∨ (bb = b ∧ o = 6)
set_option maxHeartbeats 4000000 in
theorem rarm_walk (b x g q cap cr ra bu ad ck tu most : Nat) (v9 v10 v8 : Value) (pk : List (Int × Nat)) (w : World) (hmost : (bu < q ∧ most = bu) ∨ (q ≤ bu ∧ most = q)) (hm0 : 1500 ≤ most) (hm1 : most ≤ 1000000) (hra0 : 0 < ra) (hra : ra ≤ 1000000000) (hcr : cr ≤ 1000000000000000) (had0 : 0 < ad) (had : ad ≤ pk.length) (hk8 : pk.length ≤ 8) (hl : ∀ p ∈ pk, p.2 ≤ 1500) (hck : ck ≤ 4000000000000000000) (htu : tu < 1000000000000000000)
    (c1 : w.cell? ⟨x, 1, none⟩ = some (.int .i64 (ra : Int))) (c2 : w.cell? ⟨x, 2, none⟩ = some (.int .i64 (bu : Int))) (c4 : w.cell? ⟨x, 4, none⟩ = some (.slice (some ⟨g, 0, none⟩) pk.length cap)) (c5 : w.cell? ⟨x, 5, none⟩ = some (.int .i64 (ad : Int))) (c6 : w.cell? ⟨x, 6, none⟩ = some (.int .i64 (cr : Int)))
    (c8 : w.cell? ⟨x, 8, none⟩ = some v8) (c9 : w.cell? ⟨x, 9, none⟩ = some v9) (c10 : w.cell? ⟨x, 10, none⟩ = some v10) (d0 : w.cell? ⟨b, 0, none⟩ = some (.int .i64 (q : Int))) (d2 : w.cell? ⟨b, 2, none⟩ = some (.int .i64 (ck : Int))) (d6 : w.cell? ⟨b, 6, none⟩ = some (.int .i64 (tu : Int)))
    (hxb : x ≠ b) (hgx : g ≠ x) (hgb : g ≠ b) (hfx : ∀ o, w.frozen? ⟨x, o, none⟩ = false) (hfb : ∀ o, w.frozen? ⟨b, o, none⟩ = false) (hrow : ∀ i p, pk[i]? = some p → w.cell? ⟨g, i * 2 + 1, none⟩ = some (.int .i64 (p.2 : Int)))
    (Post : World → Prop) (hPost : ∀ w' (k : Nat), k = Pace.fit (pk.take ad) most → Ch w w' (S8 x) → w'.cell? ⟨x, 8, none⟩ = some (.int .i64 (k : Int)) → ∃ wt : Int, unt (cr : Int) (ra : Int) ((Pace.bytes (pk.take k) : Int) * 1000000000) = wt ∧ 0 ≤ wt ∧ (ck : Int) + wt < 9223372036854775808 ∧ ∀ w2, Ch w' w2 (fun _ _ => False) → Post (((w2.setCell ⟨x, 9, none⟩ (.int .i64 ((ck : Int) + wt))).setCell ⟨b, 6, none⟩ (.int .i64 ((tu : Int) + 1))).setCell ⟨x, 10, none⟩ (.int .i64 ((tu : Int) + 1)))) :
    Calls Tryz.prog 124 #[.pointer (some ⟨b, 0, none⟩), .pointer (some ⟨x, 0, none⟩)] w fun e w' => e = .returned (.tuple #[]) ∧ Post w' := by
  have hch0 : Ch w (w.setCell ⟨x, 8, none⟩ (.int .i64 0)) (S8 x) := (Ch.refl w _).setCell ⟨rfl, rfl⟩ _
  have hch1 : Ch w ((w.setCell ⟨x, 8, none⟩ (.int .i64 0)).setCell ⟨x, 8, none⟩ (.int .i64 1)) (S8 x) := hch0.setCell ⟨rfl, rfl⟩ _
  have e1 := (hch0.cell x 1 (fun q => by simp [S8] at q)).trans c1
  have e2 := (hch0.cell x 2 (fun q => by simp [S8] at q)).trans c2
  have e4 := (hch0.cell x 4 (fun q => by simp [S8] at q)).trans c4
  have e5 := (hch0.cell x 5 (fun q => by simp [S8] at q)).trans c5
  have e0 := (hch0.cell b 0 (fun q => hxb q.1.symm)).trans d0
  have e8 : (w.setCell ⟨x, 8, none⟩ (.int .i64 0)).cell? ⟨x, 8, none⟩ = some (.int .i64 0) := World.cell?_setCell_same' _ _ _ (by rw [c8]; rfl)
  have y8 := (hch0.fz ⟨x, 8, none⟩).trans (hfx 8)
  have z8 := hfx 8
  have f8 : ((w.setCell ⟨x, 8, none⟩ (.int .i64 0)).setCell ⟨x, 8, none⟩ (.int .i64 1)).cell? ⟨x, 8, none⟩ = some (.int .i64 1) := World.cell?_setCell_same' _ _ _ (by rw [e8]; rfl)
  have g0 := (hch0.cell g (0 * 2 + 1) (fun q => hgx q.1)).trans (hrow 0 pk[0] (List.getElem?_eq_getElem (by omega)))
  have hp0 := hl pk[0] (List.getElem_mem (by omega))
  have HB1 := hide (bytes_next (List.getElem?_eq_getElem (show 0 < pk.length by omega)))
  have HH := hide (And.intro c1 (And.intro c4 (And.intro c5 (And.intro c6 (And.intro c9 (And.intro c10 (And.intro d2 d6)))))))
  have HL := hide hl; have HR := hide hrow; have HP := hide hPost; have HFX := hide hfx; have HFB := hide hfb; have HC1 := hide hch1; have HF8 := hide f8
  generalize pk[0].2 = p0 at g0 hp0 HB1
  have hr' : ((ra : Int) == 0) = false := by simp; omega
  have hr2 : (ra == 0) = false := by simp; omega
  have ha' : ((ad : Int) == 0) = false := by simp; omega
  have ha2 : (ad == 0) = false := by simp; omega
  have hlen0 : (0 : Int) < (pk.length : Int) := by omega
  have hbq : (decide (bu < q) = true ∧ most = bu) ∨ (decide (bu < q) = false ∧ most = q) := by
    rcases hmost with ⟨h1, h2⟩ | ⟨h1, h2⟩
    · exact .inl ⟨decide_eq_true (by omega), h2⟩
    · exact .inr ⟨decide_eq_false (by omega), h2⟩
  simp only [Nat.zero_mul, Nat.zero_add] at g0
  clear hl hrow hPost hfx hfb hch0 hch1 f8 c1 c2 c4 c5 c6 c9 c10 d0 d2 d6 hmost
  rcases hbq with ⟨hbq, rfl⟩ | ⟨hbq, rfl⟩
  all_goals
    go_enter Tryz.func124, Tryz.ntmps124
    go_wp2_with fail
    go_loopg [5] (ad - 1) (fun gk vn wr => ∃ k : Nat, vn = .int .i64 (Pace.bytes (pk.take k) : Int) ∧ gk = ad - k ∧ 1 ≤ k ∧ k ≤ ad ∧ Pace.bytes (pk.take k) ≤ most ∧ Ch w wr (S8 x) ∧ wr.cell? ⟨x, 8, none⟩ = some (.int .i64 (k : Int)))
    case atStart => exact ⟨1, by rw [unhide HB1]; simp [Pace.bytes], rfl, Nat.le_refl _, had0, by rw [unhide HB1]; simp [Pace.bytes]; omega, unhide HC1, unhide HF8⟩
    case round =>
      obtain ⟨k, hvn, hgk, hk1, hka, hbm, hch, hc8⟩ := hrel
      rw [hvn]
      clear hvn HB1 HC1 HF8 e1 e2 e4 e5 e0 e8 y8 z8 g0
      have HG := hide hgk; have HCh := hide hch
      obtain ⟨o1, o4, o5, o6, o9, o10, q2, q6⟩ := unhide HH
      have n4 := (hch.cell x 4 (fun q => by simp [S8] at q)).trans o4
      have n5 := (hch.cell x 5 (fun q => by simp [S8] at q)).trans o5
      have z8 := (hch.fz ⟨x, 8, none⟩).trans (unhide HFX 8)
      clear hgk o1 o4 o5 o6 o9 o10 q2 q6
      by_cases hkl : k < ad
      · have hki : (k : Int) < (ad : Int) := by omega
        have hk0 : (0 : Int) ≤ (k : Int) := by omega
        have hkp : (k : Int) < (pk.length : Int) := by omega
        have hgc := (hch.cell g (k * 2 + 1) (fun q => hgx q.1)).trans (unhide HR k pk[k] (List.getElem?_eq_getElem (by omega)))
        have hp := unhide HL pk[k] (List.getElem_mem (by omega))
        have HB := hide (bytes_next (List.getElem?_eq_getElem (show k < pk.length by omega)))
        have HPk := hide (List.getElem?_eq_getElem (show k < pk.length by omega))
        clear hch
        have hpl : Hid (pk[k].2 = pk[k].2) := rfl
        generalize hplv : pk[k].2 = pl at hgc hp HB
        have HPl := hide hplv
        clear hplv hpl
        obtain ⟨bs, hbs⟩ : ∃ bs, Pace.bytes (pk.take k) = bs := ⟨_, rfl⟩
        rw [hbs] at HB hbm ⊢
        have HBs := hide hbs
        clear hbs
        have hw : IntKind.i64.wrap ((bs : Int) + (pl : Int)) = (bs : Int) + (pl : Int) := wrapI (by omega) (by omega)
        have hS0 : wr.cell? ⟨x, 8, none⟩ = some (.int .i64 (k : Int)) ∧ wr.cell? ⟨x, 5, none⟩ = some (.int .i64 (ad : Int)) ∧ wr.cell? ⟨x, 4, none⟩ = some (.slice (some ⟨g, 0, none⟩) pk.length cap) ∧ wr.cell? ⟨g, k * 2 + 1, none⟩ = some (.int .i64 (pl : Int)) := ⟨hc8, n5, n4, hgc⟩
        by_cases hfit : bs + pl ≤ most
        · have hfi : (bs : Int) + (pl : Int) ≤ (most : Int) := by omega
          go_wp2_with fail
          go_region_held3 (fun W => W.cell? ⟨x, 8, none⟩ = some (.int .i64 (k : Int)) ∧ W.cell? ⟨x, 5, none⟩ = some (.int .i64 (ad : Int)) ∧ W.cell? ⟨x, 4, none⟩ = some (.slice (some ⟨g, 0, none⟩) pk.length cap) ∧ W.cell? ⟨g, k * 2 + 1, none⟩ = some (.int .i64 (pl : Int))) (exact hS0) (fail)
          go_wp2_with fail
          go_region_held3 (fun W => W.cell? ⟨x, 8, none⟩ = some (.int .i64 (k : Int)) ∧ W.cell? ⟨x, 5, none⟩ = some (.int .i64 (ad : Int)) ∧ W.cell? ⟨x, 4, none⟩ = some (.slice (some ⟨g, 0, none⟩) pk.length cap) ∧ W.cell? ⟨g, k * 2 + 1, none⟩ = some (.int .i64 (pl : Int))) (exact hS0) (fail)
          go_wp2_with fail
          go_roundg (ad - (k + 1))
          case measure => rw [unhide HG]; omega
          case rel =>
            refine ⟨k + 1, by rw [unhide HB]; go_num, rfl, by omega, by omega, by rw [unhide HB]; omega, ?_, ?_⟩
            · exact ((unhide HCh).drewN 2).setCell ⟨rfl, rfl⟩ _
            · rw [show ((k + 1 : Nat) : Int) = (k : Int) + 1 by omega]
              exact World.cell?_setCell_same' _ _ _ (by rw [hc8]; rfl)
        · have hfi : decide ((bs : Int) + (pl : Int) ≤ (most : Int)) = false := decide_eq_false (by omega)
          have hfi2 : decide (bs + pl ≤ most) = false := decide_eq_false (by omega)
          have HK : Hid (k = Pace.fit (pk.take ad) most) := (fit_at (l := pk.take ad) (k := k) (by rw [List.length_take]; omega) (by rw [List.take_take, Nat.min_eq_left hka, unhide HBs]; exact hbm) (fun p hp => by
            rw [List.take_take, Nat.min_eq_left hka, unhide HBs]
            rw [List.getElem?_take, if_pos hkl, unhide HPk] at hp
            injection hp with hp
            rw [← hp, unhide HPl]
            omega)).symm
          have HCv := HCh
          obtain ⟨wt, hu, hw0, hw1, hpo⟩ := unhide HP wr k (unhide HK) (unhide HCh) hc8
          rw [unhide HBs] at hu
          have HPo := hide hpo
          have HU : Hid (∀ W : World, ∃ E : Int, Calls Tryz.prog 145 #[.int .i64 (cr : Int), .int .i64 (ra : Int), .int .i64 ((bs : Int) * 1000000000)] W fun e w' => e = .returned (.tuple #[.int .i64 wt, .int .i64 E]) ∧ w' = W) := fun W => ⟨_, by have := untilref_any (cr : Int) (ra : Int) ((bs : Int) * 1000000000) (by omega) (by omega) (by omega) W; rw [hu] at this; exact this⟩
          obtain ⟨o1, o4, o5, o6, o9, o10, q2, q6⟩ := unhide HH
          have n1 := ((unhide HCh).cell x 1 (fun q => by simp [S8] at q)).trans o1
          have n6 := ((unhide HCh).cell x 6 (fun q => by simp [S8] at q)).trans o6
          have n9 := ((unhide HCh).cell x 9 (fun q => by simp [S8] at q)).trans o9
          have n10 := ((unhide HCh).cell x 10 (fun q => by simp [S8] at q)).trans o10
          have m2 := ((unhide HCh).cell b 2 (fun q => hxb q.1.symm)).trans q2
          have m6 := ((unhide HCh).cell b 6 (fun q => hxb q.1.symm)).trans q6
          have y9 := ((unhide HCh).fz ⟨x, 9, none⟩).trans (unhide HFX 9)
          have y10 := ((unhide HCh).fz ⟨x, 10, none⟩).trans (unhide HFX 10)
          have y6 := ((unhide HCh).fz ⟨b, 6, none⟩).trans (unhide HFB 6)
          have hwm : IntKind.i64.wrap ((bs : Int) * 1000000000) = (bs : Int) * 1000000000 := wrapI (by omega) (by omega)
          have hwa : IntKind.i64.wrap ((ck : Int) + wt) = (ck : Int) + wt := wrapI (by omega) (by omega)
          have hwt : IntKind.i64.wrap ((tu : Int) + 1) = (tu : Int) + 1 := wrapI (by omega) (by omega)
          have hbx : b ≠ x := fun e => hxb e.symm
          have hS9 : wr.cell? ⟨x, 6, none⟩ = some (.int .i64 (cr : Int)) ∧ wr.cell? ⟨x, 1, none⟩ = some (.int .i64 (ra : Int)) := ⟨n6, n1⟩
          clear hpo hu o1 o4 o5 o6 o9 o10 q2 q6
          go_wp2_with fail
          go_region_held3 (fun W => W.cell? ⟨x, 8, none⟩ = some (.int .i64 (k : Int)) ∧ W.cell? ⟨x, 5, none⟩ = some (.int .i64 (ad : Int)) ∧ W.cell? ⟨x, 4, none⟩ = some (.slice (some ⟨g, 0, none⟩) pk.length cap) ∧ W.cell? ⟨g, k * 2 + 1, none⟩ = some (.int .i64 (pl : Int))) (exact hS0) (fail)
          go_wp2_with fail
          go_region_held3 (fun W => W.cell? ⟨x, 6, none⟩ = some (.int .i64 (cr : Int)) ∧ W.cell? ⟨x, 1, none⟩ = some (.int .i64 (ra : Int))) (exact hS9)
            (first | (go_at_call 145; obtain ⟨E5, hcl⟩ := unhide HU _; refine hcl.mono ?_; rintro e w3 ⟨rfl, hw3⟩; rw [hw3]; clear hw3 hcl))
          go_wp2_with fail
          go_end0
          exact ⟨rfl, unhide HPo wr.drew.drew (Ch.refl wr _).drew.drew⟩
      · have hkk : k = ad := by omega
        have hki : decide ((k : Int) < (ad : Int)) = false := decide_eq_false (by omega)
        have hki2 : decide (k < ad) = false := decide_eq_false (by omega)
        have HK : Hid (k = Pace.fit (pk.take ad) most) := (fit_at (l := pk.take ad) (k := k) (by rw [List.length_take]; omega) (by rw [List.take_take, Nat.min_eq_left hka]; exact hbm) (fun p hp => by
          rw [List.getElem?_take, if_neg (by omega)] at hp
          cases hp)).symm
        clear hkk hch
        obtain ⟨bs, hbs⟩ : ∃ bs, Pace.bytes (pk.take k) = bs := ⟨_, rfl⟩
        rw [hbs] at hbm ⊢
        have HBs := hide hbs
        clear hbs
        have hS0 : wr.cell? ⟨x, 8, none⟩ = some (.int .i64 (k : Int)) ∧ wr.cell? ⟨x, 5, none⟩ = some (.int .i64 (ad : Int)) := ⟨hc8, n5⟩
        have HCv := HCh
        obtain ⟨wt, hu, hw0, hw1, hpo⟩ := unhide HP wr k (unhide HK) (unhide HCh) hc8
        rw [unhide HBs] at hu
        have HPo := hide hpo
        have HU : Hid (∀ W : World, ∃ E : Int, Calls Tryz.prog 145 #[.int .i64 (cr : Int), .int .i64 (ra : Int), .int .i64 ((bs : Int) * 1000000000)] W fun e w' => e = .returned (.tuple #[.int .i64 wt, .int .i64 E]) ∧ w' = W) := fun W => ⟨_, by have := untilref_any (cr : Int) (ra : Int) ((bs : Int) * 1000000000) (by omega) (by omega) (by omega) W; rw [hu] at this; exact this⟩
        obtain ⟨o1, o4, o5, o6, o9, o10, q2, q6⟩ := unhide HH
        have n1 := ((unhide HCh).cell x 1 (fun q => by simp [S8] at q)).trans o1
        have n6 := ((unhide HCh).cell x 6 (fun q => by simp [S8] at q)).trans o6
        have n9 := ((unhide HCh).cell x 9 (fun q => by simp [S8] at q)).trans o9
        have n10 := ((unhide HCh).cell x 10 (fun q => by simp [S8] at q)).trans o10
        have m2 := ((unhide HCh).cell b 2 (fun q => hxb q.1.symm)).trans q2
        have m6 := ((unhide HCh).cell b 6 (fun q => hxb q.1.symm)).trans q6
        have y9 := ((unhide HCh).fz ⟨x, 9, none⟩).trans (unhide HFX 9)
        have y10 := ((unhide HCh).fz ⟨x, 10, none⟩).trans (unhide HFX 10)
        have y6 := ((unhide HCh).fz ⟨b, 6, none⟩).trans (unhide HFB 6)
        have hwm : IntKind.i64.wrap ((bs : Int) * 1000000000) = (bs : Int) * 1000000000 := wrapI (by omega) (by omega)
        have hwa : IntKind.i64.wrap ((ck : Int) + wt) = (ck : Int) + wt := wrapI (by omega) (by omega)
        have hwt : IntKind.i64.wrap ((tu : Int) + 1) = (tu : Int) + 1 := wrapI (by omega) (by omega)
        have hbx : b ≠ x := fun e => hxb e.symm
        have hS9 : wr.cell? ⟨x, 6, none⟩ = some (.int .i64 (cr : Int)) ∧ wr.cell? ⟨x, 1, none⟩ = some (.int .i64 (ra : Int)) := ⟨n6, n1⟩
        clear hpo hu o1 o4 o5 o6 o9 o10 q2 q6
        go_wp2_with fail
        go_quiet (fail)
        go_wp2_with fail
        go_region_held3 (fun W => W.cell? ⟨x, 6, none⟩ = some (.int .i64 (cr : Int)) ∧ W.cell? ⟨x, 1, none⟩ = some (.int .i64 (ra : Int))) (exact hS9)
          (first | (go_at_call 145; obtain ⟨E5, hcl⟩ := unhide HU _; refine hcl.mono ?_; rintro e w3 ⟨rfl, hw3⟩; rw [hw3]; clear hw3 hcl))
        go_wp2_with fail
        go_end0
        exact ⟨rfl, unhide HPo _ ((Ch.refl wr _).drewN _)⟩
end Go.Proofs.YtogdekjklbbbiaaGreatDoor
