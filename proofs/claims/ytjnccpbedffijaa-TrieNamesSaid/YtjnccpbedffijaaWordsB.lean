/- What the calls Mask, Cut, Compare and Size of package word do: contracts, by walks. No condition but that the arguments are words. -/
import Derived.Test.YtjnccpbedffijaaWords
import Derived.Deep.RegionWith
import Derived.Lib.BitFns
namespace Go.Proofs.Ytjnccpbedffijaa
set_option linter.unusedVariables false
open Go.RowKit

/-- The mask of a width. -/
def mask (n : Nat) : BitVec 128 := ~~~ (BitVec.allOnes 128 <<< n)

/-- How two words stand to each other. -/
def cmpW (x y : BitVec 128) : Int := if x = y then 0 else if x < y then -1 else 1

theorem cmpW_eq {x y : BitVec 128} (h : x = y) : cmpW x y = 0 := by unfold cmpW; rw [if_pos h]
theorem cmpW_lt {x y : BitVec 128} (h : x.toNat < y.toNat) : cmpW x y = -1 := by
  unfold cmpW; rw [if_neg (by rintro rfl; omega), if_pos (BitVec.lt_def.mpr h)]
theorem cmpW_gt {x y : BitVec 128} (h : y.toNat < x.toNat) : cmpW x y = 1 := by
  unfold cmpW; rw [if_neg (by rintro rfl; omega), if_neg (by rw [BitVec.lt_def]; omega)]

/-- The size of a word. -/
def sizeW (x : BitVec 128) : Nat := if x.toNat / 18446744073709551616 = 0 then Lib.bitLen (x.toNat % 18446744073709551616) else 64 + Lib.bitLen (x.toNat / 18446744073709551616)

end Go.Proofs.Ytjnccpbedffijaa
