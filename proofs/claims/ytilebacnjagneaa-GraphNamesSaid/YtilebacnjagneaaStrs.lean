/- A slice of texts in memory, and such texts taken together. No program is in sight. -/
import Derived.Test.YtilebacnjagneaaBase
namespace Go.Proofs.Ytilebacnjagneaa
set_option linter.unusedVariables false
open Go.RowKit

theorem badd_block (a : Addr) (n : Nat) : (a.add n).block = a.block := by unfold Addr.add; split <;> rfl
/-- The texts that a slice holds. -/
structure StrsAt (w : World) (A : Option Addr) (l : List ByteArray) : Prop where
  none_ : A = none → l = []
  cell : ∀ a, A = some a → ∀ j s, l[j]? = some s → w.cell? (a.add j) = some (.string s)
theorem StrsAt.on {W w : World} {A : Option Addr} {l : List ByteArray} (h : StrsAt W A l) (g : Wider W w) : StrsAt w A l :=
  ⟨h.none_, fun a e j s hs => wkeep g (h.cell a e j s hs)⟩
theorem StrsAt.nil (w : World) : StrsAt w none [] := ⟨fun _ => rfl, fun a e => by cases e⟩
theorem StrsAt.new (w : World) (l : List ByteArray) (t : TypeId) (C : Array Value) (hC : C = (l.map Value.string).toArray) : StrsAt (w.alloc (.cells C t)) (some ⟨w.heap.size, 0, none⟩) l where
  none_ e := by cases e
  cell a e j s hs := by
    obtain rfl : (⟨w.heap.size, 0, none⟩ : Addr) = a := by injection e
    have e2 : (⟨w.heap.size, 0, none⟩ : Addr).add j = ⟨w.heap.size, j, none⟩ := by
      unfold Addr.add; by_cases h : j = 0
      · subst h; simp
      · simp [h]
    rw [e2, World.cell?_alloc_new, hC]
    simp [hs]

/-- Texts, one behind the other. -/
def joinL (l : List ByteArray) : ByteArray := ⟨(l.flatMap fun s => s.data.toList).toArray⟩
theorem joinL_data (l : List ByteArray) : (joinL l).data.toList = l.flatMap fun s => s.data.toList := rfl
theorem joinL_nil : joinL [] = ⟨#[]⟩ := rfl
theorem ba_ext {a b : ByteArray} (h : a.data.toList = b.data.toList) : a = b := by
  have d := Array.toList_inj.1 h
  cases a; cases b; simpa using d
theorem joinL_snoc (l : List ByteArray) (s : ByteArray) : joinL (l ++ [s]) = joinL l ++ s := by
  apply ba_ext
  rw [joinL_data, ByteArray.data_append, Array.toList_append, joinL_data]
  simp
theorem joinL_size (l : List ByteArray) : (joinL l).size = (l.map fun s => s.size).sum := by
  have e : (joinL l).size = (joinL l).data.toList.length := by simp
  rw [e, joinL_data, List.length_flatMap]
  simp
theorem joinL_one (s : ByteArray) : joinL [s] = s := by apply ba_ext; rw [joinL_data]; simp

end Go.Proofs.Ytilebacnjagneaa
