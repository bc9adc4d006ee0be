import Derived.WalkKit
namespace Go.Proofs.YtogdekjklbbbiaaDoor

theorem spl (v : Int) (h0 : 0 ≤ v) : ∃ o c : Int, v % 2147483648 = o ∧ v / 2147483648 = c ∧ v = o + 2147483648 * c ∧ 0 ≤ o ∧ o < 2147483648 ∧ 0 ≤ c :=
  ⟨_, _, rfl, rfl, by omega, by omega, by omega, by omega⟩

theorem prodb {x y : Int} (m n : Int) (hx0 : 0 ≤ x) (hx : x ≤ m) (hy0 : 0 ≤ y) (hy : y ≤ n) : 0 ≤ x * y ∧ x * y ≤ m * n :=
  ⟨Int.mul_nonneg hx0 hy0, Int.mul_le_mul hx hy hy0 (Int.le_trans hx0 hx)⟩

theorem expand (x0 x1 x2 y0 y1 y2 : Int) :
    (x0 + 2147483648 * x1 + 4611686018427387904 * x2) * (y0 + 2147483648 * y1 + 4611686018427387904 * y2) =
      x0 * y0 + 2147483648 * (x0 * y1 + x1 * y0) + 4611686018427387904 * (x0 * y2 + x1 * y1 + x2 * y0) + 9903520314283042199192993792 * (x1 * y2 + x2 * y1) + 21267647932558653966460912964485513216 * (x2 * y2) := by
  grind

structure Chain (x0 x1 x2 y0 y1 y2 o1 o4 o7 o8 o9 : Int) : Prop where
  val : o1 + 2147483648 * o4 + 4611686018427387904 * o7 + 9903520314283042199192993792 * o8 + 21267647932558653966460912964485513216 * o9 = (x0 + 2147483648 * x1 + 4611686018427387904 * x2) * (y0 + 2147483648 * y1 + 4611686018427387904 * y2)
  b1 : 0 ≤ o1 ∧ o1 < 2147483648
  b4 : 0 ≤ o4 ∧ o4 < 2147483648
  b7 : 0 ≤ o7 ∧ o7 < 2147483648
  b8 : 0 ≤ o8 ∧ o8 < 2147483648
  b9 : 0 ≤ o9 ∧ o9 < 2147483648

theorem chain (x0 x1 x2 y0 y1 y2 : Int) (hx0 : 0 ≤ x0) (hx0' : x0 < 2147483648) (hx1 : 0 ≤ x1) (hx1' : x1 < 2147483648) (hx2 : 0 ≤ x2) (hx2' : x2 ≤ 1)
    (hy0 : 0 ≤ y0) (hy0' : y0 < 2147483648) (hy1 : 0 ≤ y1) (hy1' : y1 < 2147483648) (hy2 : 0 ≤ y2) (hy2' : y2 ≤ 1) :
    ∃ o1 c1 o2 c2 o3 c3 o4 c4 o5 c5 o6 c6 o7 c7 o8 c8 o9 c9 : Int,
      (x0 * y0 % 2147483648 = o1 ∧ x0 * y0 / 2147483648 = c1 ∧ 0 ≤ x0 * y0 ∧ x0 * y0 ≤ 4611686014132420609 ∧ 0 ≤ o1 ∧ o1 < 2147483648 ∧ 0 ≤ c1 ∧ c1 < 2147483648) ∧
      ((x0 * y1 + c1) % 2147483648 = o2 ∧ (x0 * y1 + c1) / 2147483648 = c2 ∧ 0 ≤ x0 * y1 ∧ x0 * y1 ≤ 4611686014132420609 ∧ 0 ≤ o2 ∧ o2 < 2147483648 ∧ 0 ≤ c2 ∧ c2 < 2147483648) ∧
      ((x0 * y2 + c2) % 2147483648 = o3 ∧ (x0 * y2 + c2) / 2147483648 = c3 ∧ 0 ≤ x0 * y2 ∧ x0 * y2 ≤ 2147483647 ∧ 0 ≤ o3 ∧ o3 < 2147483648 ∧ 0 ≤ c3 ∧ c3 < 2147483648) ∧
      ((o2 + x1 * y0) % 2147483648 = o4 ∧ (o2 + x1 * y0) / 2147483648 = c4 ∧ 0 ≤ x1 * y0 ∧ x1 * y0 ≤ 4611686014132420609 ∧ 0 ≤ o4 ∧ o4 < 2147483648 ∧ 0 ≤ c4 ∧ c4 < 2147483648) ∧
      ((o3 + x1 * y1 + c4) % 2147483648 = o5 ∧ (o3 + x1 * y1 + c4) / 2147483648 = c5 ∧ 0 ≤ x1 * y1 ∧ x1 * y1 ≤ 4611686014132420609 ∧ 0 ≤ o5 ∧ o5 < 2147483648 ∧ 0 ≤ c5 ∧ c5 < 2147483648) ∧
      ((c3 + x1 * y2 + c5) % 2147483648 = o6 ∧ (c3 + x1 * y2 + c5) / 2147483648 = c6 ∧ 0 ≤ x1 * y2 ∧ x1 * y2 ≤ 2147483647 ∧ 0 ≤ o6 ∧ o6 < 2147483648 ∧ 0 ≤ c6 ∧ c6 < 2147483648) ∧
      ((o5 + x2 * y0) % 2147483648 = o7 ∧ (o5 + x2 * y0) / 2147483648 = c7 ∧ 0 ≤ x2 * y0 ∧ x2 * y0 ≤ 2147483647 ∧ 0 ≤ o7 ∧ o7 < 2147483648 ∧ 0 ≤ c7 ∧ c7 < 2147483648) ∧
      ((o6 + x2 * y1 + c7) % 2147483648 = o8 ∧ (o6 + x2 * y1 + c7) / 2147483648 = c8 ∧ 0 ≤ x2 * y1 ∧ x2 * y1 ≤ 2147483647 ∧ 0 ≤ o8 ∧ o8 < 2147483648 ∧ 0 ≤ c8 ∧ c8 < 2147483648) ∧
      ((c6 + x2 * y2 + c8) % 2147483648 = o9 ∧ (c6 + x2 * y2 + c8) / 2147483648 = c9 ∧ 0 ≤ x2 * y2 ∧ x2 * y2 ≤ 1 ∧ 0 ≤ o9 ∧ o9 < 2147483648 ∧ 0 ≤ c9 ∧ c9 < 2147483648) ∧
      Chain x0 x1 x2 y0 y1 y2 o1 o4 o7 o8 o9 := by
  have p00 := prodb 2147483647 2147483647 hx0 (by omega) hy0 (by omega)
  have p01 := prodb 2147483647 2147483647 hx0 (by omega) hy1 (by omega)
  have p02 := prodb 2147483647 1 hx0 (by omega) hy2 (by omega)
  have p10 := prodb 2147483647 2147483647 hx1 (by omega) hy0 (by omega)
  have p11 := prodb 2147483647 2147483647 hx1 (by omega) hy1 (by omega)
  have p12 := prodb 2147483647 1 hx1 (by omega) hy2 (by omega)
  have p20 := prodb 1 2147483647 hx2 (by omega) hy0 (by omega)
  have p21 := prodb 1 2147483647 hx2 (by omega) hy1 (by omega)
  have p22 := prodb 1 1 hx2 (by omega) hy2 (by omega)
  have hE := expand x0 x1 x2 y0 y1 y2
  obtain ⟨o1, c1, e1, f1, s1, l1, u1, k1⟩ := spl (x0 * y0) (by omega)
  obtain ⟨o2, c2, e2, f2, s2, l2, u2, k2⟩ := spl (x0 * y1 + c1) (by omega)
  obtain ⟨o3, c3, e3, f3, s3, l3, u3, k3⟩ := spl (x0 * y2 + c2) (by omega)
  obtain ⟨o4, c4, e4, f4, s4, l4, u4, k4⟩ := spl (o2 + x1 * y0) (by omega)
  obtain ⟨o5, c5, e5, f5, s5, l5, u5, k5⟩ := spl (o3 + x1 * y1 + c4) (by omega)
  obtain ⟨o6, c6, e6, f6, s6, l6, u6, k6⟩ := spl (c3 + x1 * y2 + c5) (by omega)
  obtain ⟨o7, c7, e7, f7, s7, l7, u7, k7⟩ := spl (o5 + x2 * y0) (by omega)
  obtain ⟨o8, c8, e8, f8, s8, l8, u8, k8⟩ := spl (o6 + x2 * y1 + c7) (by omega)
  obtain ⟨o9, c9, e9, f9, s9, l9, u9, k9⟩ := spl (c6 + x2 * y2 + c8) (by omega)
  have b1 : c1 < 2147483648 := by omega
  have b2 : c2 < 2147483648 := by omega
  have b3 : c3 < 2147483648 := by omega
  have b4 : c4 < 2147483648 := by omega
  have b5 : c5 < 2147483648 := by omega
  have b6 : c6 < 2147483648 := by omega
  have b7 : c7 < 2147483648 := by omega
  have b8 : c8 < 2147483648 := by omega
  have b9 : c9 < 2147483648 := by omega
  have g3 : c3 ≤ 1 := by omega
  have g6 : c6 ≤ 2 := by omega
  have g7 : c7 ≤ 1 := by omega
  have g8 : c8 ≤ 1 := by omega
  have g9 : c9 = 0 := by omega
  refine ⟨o1, c1, o2, c2, o3, c3, o4, c4, o5, c5, o6, c6, o7, c7, o8, c8, o9, c9, ⟨e1, f1, p00.1, p00.2, l1, u1, k1, b1⟩, ⟨e2, f2, p01.1, p01.2, l2, u2, k2, b2⟩, ⟨e3, f3, p02.1, p02.2, l3, u3, k3, b3⟩, ⟨e4, f4, p10.1, p10.2, l4, u4, k4, b4⟩, ⟨e5, f5, p11.1, p11.2, l5, u5, k5, b5⟩, ⟨e6, f6, p12.1, p12.2, l6, u6, k6, b6⟩, ⟨e7, f7, p20.1, p20.2, l7, u7, k7, b7⟩, ⟨e8, f8, p21.1, p21.2, l8, u8, k8, b8⟩, ⟨e9, f9, p22.1, p22.2, l9, u9, k9, b9⟩, ⟨?_, ⟨l1, u1⟩, ⟨l4, u4⟩, ⟨l7, u7⟩, ⟨l8, u8⟩, ⟨l9, u9⟩⟩⟩
  rw [hE]
  clear e1 f1 e2 f2 e3 f3 e4 f4 e5 f5 e6 f6 e7 f7 e8 f8 e9 f9 hE
  omega
end Go.Proofs.YtogdekjklbbbiaaDoor
