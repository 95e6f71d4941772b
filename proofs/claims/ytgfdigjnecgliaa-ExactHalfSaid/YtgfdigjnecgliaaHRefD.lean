/- What the document's Of of layer 4 and the helper large of its statements do: over texts in memory. -/
import Derived.Test.YtgfdigjnecgliaaHRefC
namespace Go.Proofs.Ytgfdigjnecgliaa
set_option linter.unusedVariables false
open Go.RowKit

/-- How much texts are, as the statements of layer 4 reckon it. -/
def bulkH (l : List ByteArray) : Nat := (l.map fun s => 1 + min s.size 5000).sum
theorem bulkH_snoc (l : List ByteArray) (s : ByteArray) : bulkH (l ++ [s]) = bulkH l + (1 + min s.size 5000) := by unfold bulkH; simp
theorem bulkH_take (l : List ByteArray) (k : Nat) : bulkH (l.take k) ≤ bulkH l := by
  have e : bulkH l = bulkH (l.take k) + bulkH (l.drop k) := by
    unfold bulkH; rw [← List.sum_append, ← List.map_append, List.take_append_drop]
  omega
theorem hltake_snoc (l : List ByteArray) (k : Nat) (s : ByteArray) (h : l[k]? = some s) : l.take (k + 1) = l.take k ++ [s] := by
  have hk : k < l.length := (List.getElem?_eq_some_iff.1 h).1
  rw [List.take_succ_eq_append_getElem hk]
  congr 2
  rw [List.getElem?_eq_getElem hk] at h
  injection h

/-- The hash of texts, one behind the other. -/
def textsH (l : List ByteArray) : BitVec 32 := moreH 2166136261#32 (joinL l).data.toList
theorem textsH_nil : textsH [] = 2166136261#32 := rfl
theorem textsH_snoc (l : List ByteArray) (s : ByteArray) : textsH (l ++ [s]) = moreH (textsH l) s.data.toList := by
  unfold textsH
  rw [joinL_snoc, ByteArray.data_append, Array.toList_append, moreH_append]

end Go.Proofs.Ytgfdigjnecgliaa
