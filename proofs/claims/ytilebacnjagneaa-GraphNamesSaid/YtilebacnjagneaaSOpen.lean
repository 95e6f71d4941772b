/- A slice of texts that comes in: how it is read. -/
import Derived.Test.YtilebacnjagneaaOpen
import Derived.Test.YtilebacnjagneaaStrs
import Derived.SliceStrings
import Derived.WideKeyArgs
import Derived.Deep.Frames
namespace Go.Proofs.Ytilebacnjagneaa
set_option linter.unusedVariables false
open Go.ChangeShapes Go.WideShapes Go.ChangeAt Go.RowKit Go.Joins

theorem laid3 : laidOutB Try.prog = true := by kernel_rfl
theorem open_strs {H : Type} {enc : TypeId × Value → H} {P : Program} {w : World} {base : Nat} {t e : TypeId} {fuel : Nat} {A : Option Addr} {len cap : Nat} {x : DataW H × List MemPlace} (ht : P.underlying t = some (.slice e)) (he : P.underlying e = some .string) (hc : P.cellsOf e = 1)
    (h : DataW.trod enc P w base (fun _ => true) true fuel t [.slice A len cap] = some x) :
    ∃ l : List ByteArray, l.length = len ∧ StrsAt w A l ∧ l.length ≤ maxLen ∧ ∀ s ∈ l, s.size ≤ maxLen := by
  rcases open_strings ht he hc h with ⟨hcs, hx⟩ | ⟨a, len', cap', ss, hcs, _, hl, hm, hz, hx, hcell, hsz⟩
  · simp at hcs
    obtain ⟨rfl, rfl, rfl⟩ := hcs
    exact ⟨[], rfl, StrsAt.nil w, by simp [maxLen], by simp⟩
  · simp at hcs
    obtain ⟨rfl, rfl, rfl⟩ := hcs
    simp only [if_true] at hz
    refine ⟨ss.take len, by simp; omega, ⟨(fun e => by cases e), fun b e j s hj => ?_⟩, by simp; omega, fun s hs => hsz s (List.mem_of_mem_take hs)⟩
    obtain rfl : a = b := by injection e
    have hj' : j < (ss.take len).length := (List.getElem?_eq_some_iff.1 hj).1
    have hj2 : j < ss.length := by simp at hj'; omega
    rw [hcell j hj2]
    rw [List.getElem?_take] at hj
    split at hj
    · rw [List.getD_eq_getElem?_getD, hj]; rfl
    · cases hj

end Go.Proofs.Ytilebacnjagneaa
