import Derived.Test.YtogdekjklbbbiaaDoorRows
import Derived.Test.YtogdekjklbbbiaaDoorCh
import Derived.Laws.MathBits
namespace Go.Proofs.YtogdekjklbbbiaaDoor
open Go.ChangeShapes Go.WideShapes Go.ChangeAt Go.RowKit

theorem len_fin (x y : Int) (k : Nat) (hk : k ≤ 56) (hy : y = x / 2 ^ k) (h0 : 0 ≤ x) (hy1 : 0 < y) (hy2 : y < 256) : wrap64 ((k : Int) + wrap64 (bitLen y.toNat : Int)) = (bitLen x.toNat : Int) := by
  obtain ⟨n, rfl⟩ := Int.eq_ofNat_of_zero_le h0
  have e : y = ((n / 2 ^ k : Nat) : Int) := by rw [hy]; simp
  subst e
  rw [Int.toNat_natCast, Int.toNat_natCast]
  rw [bitLen_shift n k (by omega)]
  have := bitLen_le8 (n / 2 ^ k) (by omega)
  generalize bitLen (n / 2 ^ k) = b at *
  unfold wrap64
  omega
theorem len_fin0 (x : Int) (h0 : 0 ≤ x) (hy2 : x < 256) : wrap64 (wrap64 (bitLen x.toNat : Int)) = (bitLen x.toNat : Int) := by
  have := bitLen_le8 x.toNat (by omega)
  generalize bitLen x.toNat = b at *
  unfold wrap64
  omega

set_option maxHeartbeats 1000000 in
set_option maxRecDepth 100000 in
theorem len64_any (x : Int) (h0 : 0 < x) (h1 : x < 18446744073709551616) (w : World) :
    Calls Tryd.prog 90 #[.int .u64 x] w fun e w' => e = .returned (.int .i64 (bitLen x.toNat : Int)) ∧ w' = w := by
  by_cases h2 : 4294967296 ≤ x
  · by_cases h3 : 65536 ≤ x / 4294967296
    · by_cases h4 : 256 ≤ x / 4294967296 / 65536
      · have hf := hide (len_fin x (x / 4294967296 / 65536 / 256) 56 (by omega) (by omega) (by omega) (by omega) (by omega))
        go_enter Tryd.func90, Tryd.ntmps90
        go_wp2
        simp only [len8tab_get]
        go_ret
        exact ⟨congrArg Ending.returned (congrArg (Value.int IntKind.i64) (unhide hf)), rfl⟩
      · have hf := hide (len_fin x (x / 4294967296 / 65536) 48 (by omega) (by omega) (by omega) (by omega) (by omega))
        go_enter Tryd.func90, Tryd.ntmps90
        go_wp2
        simp only [len8tab_get]
        go_ret
        exact ⟨congrArg Ending.returned (congrArg (Value.int IntKind.i64) (unhide hf)), rfl⟩
    · by_cases h4 : 256 ≤ x / 4294967296
      · have hf := hide (len_fin x (x / 4294967296 / 256) 40 (by omega) (by omega) (by omega) (by omega) (by omega))
        go_enter Tryd.func90, Tryd.ntmps90
        go_wp2
        simp only [len8tab_get]
        go_ret
        exact ⟨congrArg Ending.returned (congrArg (Value.int IntKind.i64) (unhide hf)), rfl⟩
      · have hf := hide (len_fin x (x / 4294967296) 32 (by omega) (by omega) (by omega) (by omega) (by omega))
        go_enter Tryd.func90, Tryd.ntmps90
        go_wp2
        simp only [len8tab_get]
        go_ret
        exact ⟨congrArg Ending.returned (congrArg (Value.int IntKind.i64) (unhide hf)), rfl⟩
  · by_cases h3 : 65536 ≤ x
    · by_cases h4 : 256 ≤ x / 65536
      · have hf := hide (len_fin x (x / 65536 / 256) 24 (by omega) (by omega) (by omega) (by omega) (by omega))
        go_enter Tryd.func90, Tryd.ntmps90
        go_wp2
        simp only [len8tab_get]
        go_ret
        exact ⟨congrArg Ending.returned (congrArg (Value.int IntKind.i64) (unhide hf)), rfl⟩
      · have hf := hide (len_fin x (x / 65536) 16 (by omega) (by omega) (by omega) (by omega) (by omega))
        go_enter Tryd.func90, Tryd.ntmps90
        go_wp2
        simp only [len8tab_get]
        go_ret
        exact ⟨congrArg Ending.returned (congrArg (Value.int IntKind.i64) (unhide hf)), rfl⟩
    · by_cases h4 : 256 ≤ x
      · have hf := hide (len_fin x (x / 256) 8 (by omega) (by omega) (by omega) (by omega) (by omega))
        go_enter Tryd.func90, Tryd.ntmps90
        go_wp2
        simp only [len8tab_get]
        go_ret
        exact ⟨congrArg Ending.returned (congrArg (Value.int IntKind.i64) (unhide hf)), rfl⟩
      · have hf := hide (len_fin0 x (by omega) (by omega))
        go_enter Tryd.func90, Tryd.ntmps90
        go_wp2
        simp only [len8tab_get]
        go_ret
        exact ⟨congrArg Ending.returned (congrArg (Value.int IntKind.i64) (unhide hf)), rfl⟩
end Go.Proofs.YtogdekjklbbbiaaDoor
