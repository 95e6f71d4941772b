/- What the document's answer Back of layer 4 does. -/
import Derived.Test.YtgfdigjnecgliaaHRefB
namespace Go.Proofs.Ytgfdigjnecgliaa
set_option linter.unusedVariables false
open Go.RowKit

theorem back13_b (x : BitVec 32) {c m d : Nat} (hc : x.toNat = c) (hm : (x ^^^ (x >>> 13)).toNat = m) (hd : (back13 x).toNat = d) :
    bits .xor .u32 (c : Int) ((c : Int) / 8192) = (m : Int) ∧ bits .xor .u32 (m : Int) ((c : Int) / 67108864) = (d : Int) := by
  constructor
  · exact fold_b x 13 hc hm
  · have e : (c : Int) / 67108864 = ((x >>> 26).toNat : Int) := by rw [shr_b, hc]
    have e2 : bits .xor .u32 (m : Int) ((x >>> 26).toNat : Int) = (d : Int) := by
      rw [← hm, xor_b, ← hd]; rfl
    rw [← e] at e2
    exact e2

end Go.Proofs.Ytgfdigjnecgliaa
