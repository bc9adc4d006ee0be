import Derived.Test.YtogdekjklbbbiaaGreatDoorPush
namespace Go.Proofs.YtogdekjklbbbiaaGreatDoor
open Go.ChangeShapes Go.WideShapes Go.ChangeAt Go.RowKit
set_option linter.unusedSimpArgs false
set_option linter.unusedVariables false

def remS (hb ho x : Nat) (l r : List Nat) (b o : Nat) : Prop := (b = hb ∧ (o = ho ∨ o = ho + 1)) ∨ (b = x ∧ o < 2) ∨ (l.getLast? = some b ∧ o = 1) ∨ (r.head? = some b ∧ o = 0)

theorem rem_nn_post (hb ho x : Nat) (w : World) (hL : LAt w hb ho ([] ++ x :: [])) (hd : ([] ++ x :: []).Nodup) (hlb : ∀ q ∈ [] ++ x :: [], q ≠ hb) :
    LAt ((((w.setCell ⟨hb, ho, none⟩ (.pointer none)).setCell ⟨hb, ho + 1, none⟩ (.pointer none)).setCell ⟨x, 0, none⟩ (.pointer none)).setCell ⟨x, 1, none⟩ (.pointer none)) hb ho ([] ++ []) ∧ Ch w ((((w.setCell ⟨hb, ho, none⟩ (.pointer none)).setCell ⟨hb, ho + 1, none⟩ (.pointer none)).setCell ⟨x, 0, none⟩ (.pointer none)).setCell ⟨x, 1, none⟩ (.pointer none)) (remS hb ho x [] []) := by
  obtain ⟨h1, h2, h3⟩ := hL
  have hdd := hd
  rw [List.nodup_append] at hd
  obtain ⟨hd1, hd2, hd3⟩ := hd
  have hxb : x ≠ hb := hlb x (by simp)
  have hxb' : hb ≠ x := fun e => hxb e.symm
  have hs := (seg_append _ [] (x :: []) none none).1 h3
  have hx0 : w.cell? ⟨x, 0, none⟩ = some (.pointer none) := by simpa [PV] using hs.2.1
  have hx1 : w.cell? ⟨x, 1, none⟩ = some (.pointer none) := by simpa [PV] using hs.2.2.1
  have hxl : ∀ q ∈ [], q ≠ x := fun q hq e => hd3 q hq x (by simp) e
  have hxr : ∀ q ∈ [], q ≠ x := fun q hq e => (List.nodup_cons.1 hd2).1 (e ▸ hq)
  refine ⟨⟨?_, ?_, ?_⟩, ?_⟩
  · simp [cset, ↓isSome_set, PV, h1, h2, hx0, hx1, hxb, hxb']
  · simp [cset, ↓isSome_set, PV, h1, h2, hx0, hx1, hxb, hxb']
  · refine seg_remove (c := fun b o => w.cell? ⟨b, o, none⟩) [] [] x h3 hdd ?_ ?_ ?_ ?_
    · intro q hq hn
      have q1 : q ≠ hb := hlb q (by rcases List.mem_append.1 hq with h | h <;> simp_all)
      have q2 : q ≠ x := (List.mem_append.1 hq).elim (hxl _) (hxr _)
      simp [cset, ↓isSome_set, PV, h1, h2, hx0, hx1, hxb, hxb', q1, q2]
    · intro q hq hn
      have q1 : q ≠ hb := hlb q (by rcases List.mem_append.1 hq with h | h <;> simp_all)
      have q2 : q ≠ x := (List.mem_append.1 hq).elim (hxl _) (hxr _)
      simp [cset, ↓isSome_set, PV, h1, h2, hx0, hx1, hxb, hxb', q1, q2]
    · intro q hq
      simp at hq
    · intro q hq
      simp at hq
  · exact (((((Ch.refl _ _).setCell (.inl ⟨rfl, .inl rfl⟩) _).setCell (.inl ⟨rfl, .inr rfl⟩) _).setCell (.inr (.inl ⟨rfl, by omega⟩)) _).setCell (.inr (.inl ⟨rfl, by omega⟩)) _)

set_option maxHeartbeats 1000000 in
theorem rem_nn (hb ho x : Nat) (w : World) (hL : LAt w hb ho ([] ++ x :: [])) (hd : ([] ++ x :: []).Nodup) (hlb : ∀ q ∈ [] ++ x :: [], q ≠ hb) (fz : ∀ q ∈ hb :: ([] ++ x :: []), ∀ o, w.frozen? ⟨q, o, none⟩ = false) :
    Calls Tryz.prog 115 #[.pointer (some ⟨hb, ho, none⟩), .pointer (some ⟨x, 0, none⟩)] w fun e w' => e = .returned (.tuple #[]) ∧ LAt w' hb ho ([] ++ []) ∧ Ch w w' (remS hb ho x [] []) := by
  have hpost := hide (rem_nn_post hb ho x w hL hd hlb)
  obtain ⟨H1, H2, h3⟩ := hL
  rw [List.nodup_append] at hd
  obtain ⟨hd1, hd2, hd3⟩ := hd
  obtain ⟨o1, hh1⟩ : ∃ o, PV ([] ++ x :: []).head? = .pointer o := ⟨_, rfl⟩
  obtain ⟨o2, hh2⟩ : ∃ o, PV ([] ++ x :: []).getLast? = .pointer o := ⟨_, rfl⟩
  have h1 : w.cell? ⟨hb, ho, none⟩ = some (.pointer o1) := by rw [H1, hh1]
  have h2 : w.cell? ⟨hb, ho + 1, none⟩ = some (.pointer o2) := by rw [H2, hh2]
  have hxb : x ≠ hb := hlb x (by simp)
  have hxb' : hb ≠ x := fun e => hxb e.symm
  have hs := (seg_append _ [] (x :: []) none none).1 h3
  have hx0 : w.cell? ⟨x, 0, none⟩ = some (.pointer none) := by simpa [PV] using hs.2.1
  have hx1 : w.cell? ⟨x, 1, none⟩ = some (.pointer none) := by simpa [PV] using hs.2.2.1
  have f1 := fz hb (by simp) ho
  have f2 := fz hb (by simp) (ho + 1)
  have f3 := fz x (by simp) 0
  have f4 := fz x (by simp) 1
  clear hs hlb fz hd1 hd2 hd3 H1 H2 h3 hh1 hh2
  go_enter Tryz.func115, Tryz.ntmps115
  go_wp2
  all_goals (go_end0; exact ⟨rfl, unhide hpost⟩)

theorem rem_nc_post (hb ho x z : Nat) (s : List Nat) (w : World) (hL : LAt w hb ho ([] ++ x :: (z :: s))) (hd : ([] ++ x :: (z :: s)).Nodup) (hlb : ∀ q ∈ [] ++ x :: (z :: s), q ≠ hb) :
    LAt ((((w.setCell ⟨hb, ho, none⟩ (.pointer (some ⟨z, 0, none⟩))).setCell ⟨z, 0, none⟩ (.pointer none)).setCell ⟨x, 0, none⟩ (.pointer none)).setCell ⟨x, 1, none⟩ (.pointer none)).drew hb ho ([] ++ (z :: s)) ∧ Ch w ((((w.setCell ⟨hb, ho, none⟩ (.pointer (some ⟨z, 0, none⟩))).setCell ⟨z, 0, none⟩ (.pointer none)).setCell ⟨x, 0, none⟩ (.pointer none)).setCell ⟨x, 1, none⟩ (.pointer none)).drew (remS hb ho x [] (z :: s)) := by
  obtain ⟨h1, h2, h3⟩ := hL
  have hdd := hd
  rw [List.nodup_append] at hd
  obtain ⟨hd1, hd2, hd3⟩ := hd
  have hxb : x ≠ hb := hlb x (by simp)
  have hxb' : hb ≠ x := fun e => hxb e.symm
  have hs := (seg_append _ [] (x :: (z :: s)) none none).1 h3
  have hx0 : w.cell? ⟨x, 0, none⟩ = some (.pointer none) := by simpa [PV] using hs.2.1
  have hx1 : w.cell? ⟨x, 1, none⟩ = some (.pointer (some ⟨z, 0, none⟩)) := by simpa [PV] using hs.2.2.1
  have hxl : ∀ q ∈ [], q ≠ x := fun q hq e => hd3 q hq x (by simp) e
  have hxr : ∀ q ∈ (z :: s), q ≠ x := fun q hq e => (List.nodup_cons.1 hd2).1 (e ▸ hq)
  have hzb : z ≠ hb := hlb z (by simp)
  have hzb' : hb ≠ z := fun e => hzb e.symm
  have hzx : z ≠ x := hxr z (by simp)
  have hzx' : x ≠ z := fun e => hzx e.symm
  have hz0 : w.cell? ⟨z, 0, none⟩ = some (.pointer (some ⟨x, 0, none⟩)) := by simpa [PV] using hs.2.2.2.1
  refine ⟨⟨?_, ?_, ?_⟩, ?_⟩
  · simp [cset, ↓isSome_set, PV, h1, h2, hx0, hx1, hxb, hxb', hzb, hzb', hzx, hzx', hz0]
  · have e : ([] ++ z :: s).getLast? = ([] ++ x :: z :: s).getLast? := by simp
    rw [e, ← h2]
    simp [cset, ↓isSome_set, PV, h1, hx0, hx1, hxb, hxb', hzb, hzb', hzx, hzx', hz0, h2]
  · refine seg_remove (c := fun b o => w.cell? ⟨b, o, none⟩) [] (z :: s) x h3 hdd ?_ ?_ ?_ ?_
    · intro q hq hn
      have q1 : q ≠ hb := hlb q (by rcases List.mem_append.1 hq with h | h <;> simp_all)
      have q2 : q ≠ x := (List.mem_append.1 hq).elim (hxl _) (hxr _)
      have q3 : q ≠ z := fun e => hn (by simp [e])
      simp [cset, ↓isSome_set, PV, h1, h2, hx0, hx1, hxb, hxb', hzb, hzb', hzx, hzx', hz0, q1, q2, q3]
    · intro q hq hn
      have q1 : q ≠ hb := hlb q (by rcases List.mem_append.1 hq with h | h <;> simp_all)
      have q2 : q ≠ x := (List.mem_append.1 hq).elim (hxl _) (hxr _)
      simp [cset, ↓isSome_set, PV, h1, h2, hx0, hx1, hxb, hxb', hzb, hzb', hzx, hzx', hz0, q1, q2]
    · intro q hq
      have e : q = z := by simpa using hq.symm
      rw [e]
      simp [cset, ↓isSome_set, PV, h1, h2, hx0, hx1, hxb, hxb', hzb, hzb', hzx, hzx', hz0]
    · intro q hq
      simp at hq
  · exact (((((Ch.refl _ _).setCell (.inl ⟨rfl, .inl rfl⟩) _).setCell (.inr (.inr (.inr ⟨by simp, rfl⟩))) _).setCell (.inr (.inl ⟨rfl, by omega⟩)) _).setCell (.inr (.inl ⟨rfl, by omega⟩)) _).drew

set_option maxHeartbeats 1000000 in
theorem rem_nc (hb ho x z : Nat) (s : List Nat) (w : World) (hL : LAt w hb ho ([] ++ x :: (z :: s))) (hd : ([] ++ x :: (z :: s)).Nodup) (hlb : ∀ q ∈ [] ++ x :: (z :: s), q ≠ hb) (fz : ∀ q ∈ hb :: ([] ++ x :: (z :: s)), ∀ o, w.frozen? ⟨q, o, none⟩ = false) :
    Calls Tryz.prog 115 #[.pointer (some ⟨hb, ho, none⟩), .pointer (some ⟨x, 0, none⟩)] w fun e w' => e = .returned (.tuple #[]) ∧ LAt w' hb ho ([] ++ (z :: s)) ∧ Ch w w' (remS hb ho x [] (z :: s)) := by
  have hpost := hide (rem_nc_post hb ho x z s w hL hd hlb)
  obtain ⟨H1, H2, h3⟩ := hL
  rw [List.nodup_append] at hd
  obtain ⟨hd1, hd2, hd3⟩ := hd
  obtain ⟨o1, hh1⟩ : ∃ o, PV ([] ++ x :: (z :: s)).head? = .pointer o := ⟨_, rfl⟩
  obtain ⟨o2, hh2⟩ : ∃ o, PV ([] ++ x :: (z :: s)).getLast? = .pointer o := ⟨_, rfl⟩
  have h1 : w.cell? ⟨hb, ho, none⟩ = some (.pointer o1) := by rw [H1, hh1]
  have h2 : w.cell? ⟨hb, ho + 1, none⟩ = some (.pointer o2) := by rw [H2, hh2]
  have hxb : x ≠ hb := hlb x (by simp)
  have hxb' : hb ≠ x := fun e => hxb e.symm
  have hs := (seg_append _ [] (x :: (z :: s)) none none).1 h3
  have hx0 : w.cell? ⟨x, 0, none⟩ = some (.pointer none) := by simpa [PV] using hs.2.1
  have hx1 : w.cell? ⟨x, 1, none⟩ = some (.pointer (some ⟨z, 0, none⟩)) := by simpa [PV] using hs.2.2.1
  have f1 := fz hb (by simp) ho
  have f2 := fz hb (by simp) (ho + 1)
  have f3 := fz x (by simp) 0
  have f4 := fz x (by simp) 1
  have hzb : z ≠ hb := hlb z (by simp)
  have hzb' : hb ≠ z := fun e => hzb e.symm
  have hzx : z ≠ x := fun e => (List.nodup_cons.1 hd2).1 (by simp [e])
  have hzx' : x ≠ z := fun e => hzx e.symm
  have hz0 : w.cell? ⟨z, 0, none⟩ = some (.pointer (some ⟨x, 0, none⟩)) := by simpa [PV] using hs.2.2.2.1
  have f6 := fz z (by simp) 0
  clear hs hlb fz hd1 hd2 hd3 H1 H2 h3 hh1 hh2
  go_enter Tryz.func115, Tryz.ntmps115
  go_wp2
  all_goals go_region_with (first | (go_at_call 198; refine (links_any _ _).mono ?_; rintro e w' ⟨rfl, rfl⟩))
  all_goals go_wp2
  all_goals (go_end0; exact ⟨rfl, unhide hpost⟩)

theorem rem_cn_post (hb ho x y : Nat) (k : List Nat) (w : World) (hL : LAt w hb ho ((k ++ [y]) ++ x :: [])) (hd : ((k ++ [y]) ++ x :: []).Nodup) (hlb : ∀ q ∈ (k ++ [y]) ++ x :: [], q ≠ hb) :
    LAt ((((w.setCell ⟨y, 1, none⟩ (.pointer none)).setCell ⟨hb, ho + 1, none⟩ (.pointer (some ⟨y, 0, none⟩))).setCell ⟨x, 0, none⟩ (.pointer none)).setCell ⟨x, 1, none⟩ (.pointer none)).drew hb ho ((k ++ [y]) ++ []) ∧ Ch w ((((w.setCell ⟨y, 1, none⟩ (.pointer none)).setCell ⟨hb, ho + 1, none⟩ (.pointer (some ⟨y, 0, none⟩))).setCell ⟨x, 0, none⟩ (.pointer none)).setCell ⟨x, 1, none⟩ (.pointer none)).drew (remS hb ho x (k ++ [y]) []) := by
  obtain ⟨h1, h2, h3⟩ := hL
  have hdd := hd
  rw [List.nodup_append] at hd
  obtain ⟨hd1, hd2, hd3⟩ := hd
  have hxb : x ≠ hb := hlb x (by simp)
  have hxb' : hb ≠ x := fun e => hxb e.symm
  have hs := (seg_append _ (k ++ [y]) (x :: []) none none).1 h3
  have hx0 : w.cell? ⟨x, 0, none⟩ = some (.pointer (some ⟨y, 0, none⟩)) := by simpa [PV] using hs.2.1
  have hx1 : w.cell? ⟨x, 1, none⟩ = some (.pointer none) := by simpa [PV] using hs.2.2.1
  have hxl : ∀ q ∈ (k ++ [y]), q ≠ x := fun q hq e => hd3 q hq x (by simp) e
  have hxr : ∀ q ∈ [], q ≠ x := fun q hq e => (List.nodup_cons.1 hd2).1 (e ▸ hq)
  have hyb : y ≠ hb := hlb y (by simp)
  have hyb' : hb ≠ y := fun e => hyb e.symm
  have hyx : y ≠ x := hxl y (by simp)
  have hyx' : x ≠ y := fun e => hyx e.symm
  have hy1 : w.cell? ⟨y, 1, none⟩ = some (.pointer (some ⟨x, 0, none⟩)) := by simpa [PV] using ((seg_append _ k [y] none _).1 hs.1).2.2.1
  refine ⟨⟨?_, ?_, ?_⟩, ?_⟩
  · have e : (k ++ [y] ++ []).head? = (k ++ [y] ++ x :: []).head? := by cases k <;> rfl
    rw [e, ← h1]
    simp [cset, ↓isSome_set, PV, h2, hx0, hx1, hxb, hxb', hyb, hyb', hyx, hyx', hy1, h1]
  · simp [cset, ↓isSome_set, PV, h1, h2, hx0, hx1, hxb, hxb', hyb, hyb', hyx, hyx', hy1]
  · refine seg_remove (c := fun b o => w.cell? ⟨b, o, none⟩) (k ++ [y]) [] x h3 hdd ?_ ?_ ?_ ?_
    · intro q hq hn
      have q1 : q ≠ hb := hlb q (by rcases List.mem_append.1 hq with h | h <;> simp_all)
      have q2 : q ≠ x := (List.mem_append.1 hq).elim (hxl _) (hxr _)
      simp [cset, ↓isSome_set, PV, h1, h2, hx0, hx1, hxb, hxb', hyb, hyb', hyx, hyx', hy1, q1, q2]
    · intro q hq hn
      have q1 : q ≠ hb := hlb q (by rcases List.mem_append.1 hq with h | h <;> simp_all)
      have q2 : q ≠ x := (List.mem_append.1 hq).elim (hxl _) (hxr _)
      have q3 : q ≠ y := fun e => hn (by simp [e])
      simp [cset, ↓isSome_set, PV, h1, h2, hx0, hx1, hxb, hxb', hyb, hyb', hyx, hyx', hy1, q1, q2, q3]
    · intro q hq
      simp at hq
    · intro q hq
      have e : q = y := by simpa using hq.symm
      rw [e]
      simp [cset, ↓isSome_set, PV, h1, h2, hx0, hx1, hxb, hxb', hyb, hyb', hyx, hyx', hy1]
  · exact (((((Ch.refl _ _).setCell (.inr (.inr (.inl ⟨by simp, rfl⟩))) _).setCell (.inl ⟨rfl, .inr rfl⟩) _).setCell (.inr (.inl ⟨rfl, by omega⟩)) _).setCell (.inr (.inl ⟨rfl, by omega⟩)) _).drew

set_option maxHeartbeats 1000000 in
theorem rem_cn (hb ho x y : Nat) (k : List Nat) (w : World) (hL : LAt w hb ho ((k ++ [y]) ++ x :: [])) (hd : ((k ++ [y]) ++ x :: []).Nodup) (hlb : ∀ q ∈ (k ++ [y]) ++ x :: [], q ≠ hb) (fz : ∀ q ∈ hb :: ((k ++ [y]) ++ x :: []), ∀ o, w.frozen? ⟨q, o, none⟩ = false) :
    Calls Tryz.prog 115 #[.pointer (some ⟨hb, ho, none⟩), .pointer (some ⟨x, 0, none⟩)] w fun e w' => e = .returned (.tuple #[]) ∧ LAt w' hb ho ((k ++ [y]) ++ []) ∧ Ch w w' (remS hb ho x (k ++ [y]) []) := by
  have hpost := hide (rem_cn_post hb ho x y k w hL hd hlb)
  obtain ⟨H1, H2, h3⟩ := hL
  rw [List.nodup_append] at hd
  obtain ⟨hd1, hd2, hd3⟩ := hd
  obtain ⟨o1, hh1⟩ : ∃ o, PV ((k ++ [y]) ++ x :: []).head? = .pointer o := ⟨_, rfl⟩
  obtain ⟨o2, hh2⟩ : ∃ o, PV ((k ++ [y]) ++ x :: []).getLast? = .pointer o := ⟨_, rfl⟩
  have h1 : w.cell? ⟨hb, ho, none⟩ = some (.pointer o1) := by rw [H1, hh1]
  have h2 : w.cell? ⟨hb, ho + 1, none⟩ = some (.pointer o2) := by rw [H2, hh2]
  have hxb : x ≠ hb := hlb x (by simp)
  have hxb' : hb ≠ x := fun e => hxb e.symm
  have hs := (seg_append _ (k ++ [y]) (x :: []) none none).1 h3
  have hx0 : w.cell? ⟨x, 0, none⟩ = some (.pointer (some ⟨y, 0, none⟩)) := by simpa [PV] using hs.2.1
  have hx1 : w.cell? ⟨x, 1, none⟩ = some (.pointer none) := by simpa [PV] using hs.2.2.1
  have f1 := fz hb (by simp) ho
  have f2 := fz hb (by simp) (ho + 1)
  have f3 := fz x (by simp) 0
  have f4 := fz x (by simp) 1
  have hyb : y ≠ hb := hlb y (by simp)
  have hyb' : hb ≠ y := fun e => hyb e.symm
  have hyx : y ≠ x := fun e => hd3 y (by simp) x (by simp) e
  have hyx' : x ≠ y := fun e => hyx e.symm
  have hy1 : w.cell? ⟨y, 1, none⟩ = some (.pointer (some ⟨x, 0, none⟩)) := by simpa [PV] using ((seg_append _ k [y] none _).1 hs.1).2.2.1
  have f5 := fz y (by simp) 1
  clear hs hlb fz hd1 hd2 hd3 H1 H2 h3 hh1 hh2
  go_enter Tryz.func115, Tryz.ntmps115
  go_wp2
  all_goals go_region_with (first | (go_at_call 198; refine (links_any _ _).mono ?_; rintro e w' ⟨rfl, rfl⟩))
  all_goals go_wp2
  all_goals (go_end0; exact ⟨rfl, unhide hpost⟩)

theorem rem_cc_post (hb ho x y z : Nat) (k : List Nat) (s : List Nat) (w : World) (hL : LAt w hb ho ((k ++ [y]) ++ x :: (z :: s))) (hd : ((k ++ [y]) ++ x :: (z :: s)).Nodup) (hlb : ∀ q ∈ (k ++ [y]) ++ x :: (z :: s), q ≠ hb) :
    LAt ((((w.setCell ⟨y, 1, none⟩ (.pointer (some ⟨z, 0, none⟩))).setCell ⟨z, 0, none⟩ (.pointer (some ⟨y, 0, none⟩))).setCell ⟨x, 0, none⟩ (.pointer none)).setCell ⟨x, 1, none⟩ (.pointer none)).drew.drew hb ho ((k ++ [y]) ++ (z :: s)) ∧ Ch w ((((w.setCell ⟨y, 1, none⟩ (.pointer (some ⟨z, 0, none⟩))).setCell ⟨z, 0, none⟩ (.pointer (some ⟨y, 0, none⟩))).setCell ⟨x, 0, none⟩ (.pointer none)).setCell ⟨x, 1, none⟩ (.pointer none)).drew.drew (remS hb ho x (k ++ [y]) (z :: s)) := by
  obtain ⟨h1, h2, h3⟩ := hL
  have hdd := hd
  rw [List.nodup_append] at hd
  obtain ⟨hd1, hd2, hd3⟩ := hd
  have hxb : x ≠ hb := hlb x (by simp)
  have hxb' : hb ≠ x := fun e => hxb e.symm
  have hs := (seg_append _ (k ++ [y]) (x :: (z :: s)) none none).1 h3
  have hx0 : w.cell? ⟨x, 0, none⟩ = some (.pointer (some ⟨y, 0, none⟩)) := by simpa [PV] using hs.2.1
  have hx1 : w.cell? ⟨x, 1, none⟩ = some (.pointer (some ⟨z, 0, none⟩)) := by simpa [PV] using hs.2.2.1
  have hxl : ∀ q ∈ (k ++ [y]), q ≠ x := fun q hq e => hd3 q hq x (by simp) e
  have hxr : ∀ q ∈ (z :: s), q ≠ x := fun q hq e => (List.nodup_cons.1 hd2).1 (e ▸ hq)
  have hyb : y ≠ hb := hlb y (by simp)
  have hyb' : hb ≠ y := fun e => hyb e.symm
  have hyx : y ≠ x := hxl y (by simp)
  have hyx' : x ≠ y := fun e => hyx e.symm
  have hy1 : w.cell? ⟨y, 1, none⟩ = some (.pointer (some ⟨x, 0, none⟩)) := by simpa [PV] using ((seg_append _ k [y] none _).1 hs.1).2.2.1
  have hzb : z ≠ hb := hlb z (by simp)
  have hzb' : hb ≠ z := fun e => hzb e.symm
  have hzx : z ≠ x := hxr z (by simp)
  have hzx' : x ≠ z := fun e => hzx e.symm
  have hz0 : w.cell? ⟨z, 0, none⟩ = some (.pointer (some ⟨x, 0, none⟩)) := by simpa [PV] using hs.2.2.2.1
  have hyz : y ≠ z := fun e => hd3 y (by simp) z (by simp) e
  have hyz' : z ≠ y := fun e => hyz e.symm
  refine ⟨⟨?_, ?_, ?_⟩, ?_⟩
  · have e : (k ++ [y] ++ (z :: s)).head? = (k ++ [y] ++ x :: (z :: s)).head? := by cases k <;> rfl
    rw [e, ← h1]
    simp [cset, ↓isSome_set, PV, h2, hx0, hx1, hxb, hxb', hyb, hyb', hyx, hyx', hy1, hzb, hzb', hzx, hzx', hz0, hyz, hyz', h1]
  · have e : ((k ++ [y]) ++ z :: s).getLast? = ((k ++ [y]) ++ x :: z :: s).getLast? := by simp
    rw [e, ← h2]
    simp [cset, ↓isSome_set, PV, h1, hx0, hx1, hxb, hxb', hyb, hyb', hyx, hyx', hy1, hzb, hzb', hzx, hzx', hz0, hyz, hyz', h2]
  · refine seg_remove (c := fun b o => w.cell? ⟨b, o, none⟩) (k ++ [y]) (z :: s) x h3 hdd ?_ ?_ ?_ ?_
    · intro q hq hn
      have q1 : q ≠ hb := hlb q (by rcases List.mem_append.1 hq with h | h <;> simp_all)
      have q2 : q ≠ x := (List.mem_append.1 hq).elim (hxl _) (hxr _)
      have q3 : q ≠ z := fun e => hn (by simp [e])
      simp [cset, ↓isSome_set, PV, h1, h2, hx0, hx1, hxb, hxb', hyb, hyb', hyx, hyx', hy1, hzb, hzb', hzx, hzx', hz0, hyz, hyz', q1, q2, q3]
    · intro q hq hn
      have q1 : q ≠ hb := hlb q (by rcases List.mem_append.1 hq with h | h <;> simp_all)
      have q2 : q ≠ x := (List.mem_append.1 hq).elim (hxl _) (hxr _)
      have q3 : q ≠ y := fun e => hn (by simp [e])
      simp [cset, ↓isSome_set, PV, h1, h2, hx0, hx1, hxb, hxb', hyb, hyb', hyx, hyx', hy1, hzb, hzb', hzx, hzx', hz0, hyz, hyz', q1, q2, q3]
    · intro q hq
      have e : q = z := by simpa using hq.symm
      rw [e]
      simp [cset, ↓isSome_set, PV, h1, h2, hx0, hx1, hxb, hxb', hyb, hyb', hyx, hyx', hy1, hzb, hzb', hzx, hzx', hz0, hyz, hyz']
    · intro q hq
      have e : q = y := by simpa using hq.symm
      rw [e]
      simp [cset, ↓isSome_set, PV, h1, h2, hx0, hx1, hxb, hxb', hyb, hyb', hyx, hyx', hy1, hzb, hzb', hzx, hzx', hz0, hyz, hyz']
  · exact (((((Ch.refl _ _).setCell (.inr (.inr (.inl ⟨by simp, rfl⟩))) _).setCell (.inr (.inr (.inr ⟨by simp, rfl⟩))) _).setCell (.inr (.inl ⟨rfl, by omega⟩)) _).setCell (.inr (.inl ⟨rfl, by omega⟩)) _).drew.drew

set_option maxHeartbeats 1000000 in
theorem rem_cc (hb ho x y z : Nat) (k : List Nat) (s : List Nat) (w : World) (hL : LAt w hb ho ((k ++ [y]) ++ x :: (z :: s))) (hd : ((k ++ [y]) ++ x :: (z :: s)).Nodup) (hlb : ∀ q ∈ (k ++ [y]) ++ x :: (z :: s), q ≠ hb) (fz : ∀ q ∈ hb :: ((k ++ [y]) ++ x :: (z :: s)), ∀ o, w.frozen? ⟨q, o, none⟩ = false) :
    Calls Tryz.prog 115 #[.pointer (some ⟨hb, ho, none⟩), .pointer (some ⟨x, 0, none⟩)] w fun e w' => e = .returned (.tuple #[]) ∧ LAt w' hb ho ((k ++ [y]) ++ (z :: s)) ∧ Ch w w' (remS hb ho x (k ++ [y]) (z :: s)) := by
  have hpost := hide (rem_cc_post hb ho x y z k s w hL hd hlb)
  obtain ⟨H1, H2, h3⟩ := hL
  rw [List.nodup_append] at hd
  obtain ⟨hd1, hd2, hd3⟩ := hd
  obtain ⟨o1, hh1⟩ : ∃ o, PV ((k ++ [y]) ++ x :: (z :: s)).head? = .pointer o := ⟨_, rfl⟩
  obtain ⟨o2, hh2⟩ : ∃ o, PV ((k ++ [y]) ++ x :: (z :: s)).getLast? = .pointer o := ⟨_, rfl⟩
  have h1 : w.cell? ⟨hb, ho, none⟩ = some (.pointer o1) := by rw [H1, hh1]
  have h2 : w.cell? ⟨hb, ho + 1, none⟩ = some (.pointer o2) := by rw [H2, hh2]
  have hxb : x ≠ hb := hlb x (by simp)
  have hxb' : hb ≠ x := fun e => hxb e.symm
  have hs := (seg_append _ (k ++ [y]) (x :: (z :: s)) none none).1 h3
  have hx0 : w.cell? ⟨x, 0, none⟩ = some (.pointer (some ⟨y, 0, none⟩)) := by simpa [PV] using hs.2.1
  have hx1 : w.cell? ⟨x, 1, none⟩ = some (.pointer (some ⟨z, 0, none⟩)) := by simpa [PV] using hs.2.2.1
  have f1 := fz hb (by simp) ho
  have f2 := fz hb (by simp) (ho + 1)
  have f3 := fz x (by simp) 0
  have f4 := fz x (by simp) 1
  have hyb : y ≠ hb := hlb y (by simp)
  have hyb' : hb ≠ y := fun e => hyb e.symm
  have hyx : y ≠ x := fun e => hd3 y (by simp) x (by simp) e
  have hyx' : x ≠ y := fun e => hyx e.symm
  have hy1 : w.cell? ⟨y, 1, none⟩ = some (.pointer (some ⟨x, 0, none⟩)) := by simpa [PV] using ((seg_append _ k [y] none _).1 hs.1).2.2.1
  have f5 := fz y (by simp) 1
  have hzb : z ≠ hb := hlb z (by simp)
  have hzb' : hb ≠ z := fun e => hzb e.symm
  have hzx : z ≠ x := fun e => (List.nodup_cons.1 hd2).1 (by simp [e])
  have hzx' : x ≠ z := fun e => hzx e.symm
  have hz0 : w.cell? ⟨z, 0, none⟩ = some (.pointer (some ⟨x, 0, none⟩)) := by simpa [PV] using hs.2.2.2.1
  have f6 := fz z (by simp) 0
  have hyz : y ≠ z := fun e => hd3 y (by simp) z (by simp) e
  have hyz' : z ≠ y := fun e => hyz e.symm
  clear hs hlb fz hd1 hd2 hd3 H1 H2 h3 hh1 hh2
  go_enter Tryz.func115, Tryz.ntmps115
  go_wp2
  all_goals go_region_with (first | (go_at_call 198; refine (links_any _ _).mono ?_; rintro e w' ⟨rfl, rfl⟩))
  all_goals go_wp2
  all_goals go_region_with (first | (go_at_call 198; refine (links_any _ _).mono ?_; rintro e w' ⟨rfl, rfl⟩))
  all_goals go_wp2
  all_goals (go_end0; exact ⟨rfl, unhide hpost⟩)

end Go.Proofs.YtogdekjklbbbiaaGreatDoor
