/- Rows of bytes that a call makes, and the texts of such. -/
import Derived.Test.YtilebacnjagneaaOpen
import Derived.Test.YtilebacnjagneaaBase
import Derived.Laws.MakeOwn
import Derived.Laws.BytesArg
import Derived.Laws.IdiomStrings
namespace Go.Proofs.Ytilebacnjagneaa
set_option linter.unusedVariables false
open Go.RowKit

/-- n noughts. -/
def zerosN (n : Nat) : Array Value := madeCells (Value.int .u8 0).cells n
theorem zerosN_at (n j : Nat) (h : j < n) : (zerosN n)[j]? = some (.int .u8 0) := by
  unfold zerosN
  have e : (Value.int IntKind.u8 0).cells = #[Value.int .u8 0] := rfl
  rw [e]
  have m : j % 1 = 0 := by omega
  simp [madeCells, h, m]
theorem infoN : (Try.prog.info? 5).map (fun i => (i.zero, i.size, i.bytes)) = some (some (.int .u8 0), 1, 1) := by kernel_rfl
theorem infoN_parts : ∃ i, Try.prog.info? 5 = some i ∧ i.zero = some (.int .u8 0) ∧ i.size = 1 ∧ i.bytes = 1 := by
  have h := infoN
  cases e : Try.prog.info? 5 with
  | none => rw [e] at h; cases h
  | some i =>
    rw [e] at h
    simp only [Option.map_some, Option.some.injEq, Prod.mk.injEq] at h
    exact ⟨i, rfl, h.1, h.2.1, h.2.2⟩
theorem makeN (n : Nat) (hn : n < 1000000) (w : World) : (Instr.makeSlice 36 (.int .i64 (n : Int)) (.int .i64 (n : Int))).run Try.prog w = .ok (.slice (some ⟨w.heap.size, 0, none⟩) n n) (w.alloc (.cells (zerosN n) 5)) := by
  obtain ⟨i0, hi, hz0, hz1, hz2⟩ := infoN_parts
  have h := run_make (P := Try.prog) (w := w) 36 5 i0 (.int .u8 0) Try.underlying36 hi hz0 .i64 .i64 (n : Int) (n : Int) (by omega) (by omega) (by rw [hz2]; omega) (by omega)
  rw [hz1, Int.toNat_natCast, Nat.mul_one] at h
  exact h

/-- A row of bytes. -/
structure Bts (w : World) (B n : Nat) (v : Nat → Int) : Prop where
  cell : ∀ j, j < n → w.cell? ⟨B, j, none⟩ = some (.int .u8 (v j))
  free : ∀ j, j < n → w.frozen? ⟨B, j, none⟩ = false
theorem Bts.on {W w : World} {B n : Nat} {v : Nat → Int} (h : Bts W B n v) (g : Wider W w) : Bts w B n v :=
  ⟨fun j hj => wkeep g (h.cell j hj), fun j hj => wfree g (h.cell j hj) (h.free j hj)⟩
theorem Bts.congr {w : World} {B n : Nat} {v u : Nat → Int} (h : Bts w B n v) (e : ∀ j, j < n → v j = u j) : Bts w B n u := ⟨fun j hj => by rw [h.cell j hj, e j hj], h.free⟩
theorem Bts.put {w : World} {B n k : Nat} {y : Int} {v u : Nat → Int} (h : Bts w B n v) (hk : k < n) (e : ∀ j, j < n → u j = if j = k then y else v j) : Bts (w.setCell ⟨B, k, none⟩ (.int .u8 y)) B n u where
  cell j hj := by
    rw [e j hj]
    by_cases q : j = k
    · subst q; rw [if_pos rfl]; exact csame (h.cell j hj)
    · rw [if_neg q, cother (by intro r; injection r; omega)]; exact h.cell j hj
  free j hj := (World.frozen?_setCell _ _ _ _).trans (h.free j hj)
theorem Bts.made (w : World) (n : Nat) : Bts (w.alloc (.cells (zerosN n) 5)) w.heap.size n (fun _ => 0) where
  cell j hj := by rw [World.cell?_alloc_new]; exact zerosN_at n j hj
  free j hj := by simp [go_sem]
/-- The row that a text's bytes are laid in. -/
theorem Bts.text (w : World) (s : ByteArray) (cap : Nat) (e : TypeId) : Bts (w.alloc (.cells (bytesRow s cap) e ((bytesRow s cap).size, (bytesRow s cap).size + 1))) w.heap.size s.size (fun j => ((s.data.toList.getD j 0).toNat : Int)) where
  cell j hj := by
    have q := World.cell?_alloc_mark w (bytesRow s cap) e ((bytesRow s cap).size, (bytesRow s cap).size + 1) j
    rw [bytesRow_at s cap j hj] at q
    rw [q]
    have e2 : s.data.toList.getD j 0 = s.data[j] := by
      rw [List.getD_eq_getElem?_getD, List.getElem?_eq_getElem (by simpa using hj)]; rfl
    rw [e2]
  free j hj := by
    have q := World.frozen?_alloc_mark w (bytesRow s cap) e (bytesRow s cap).size ((bytesRow s cap).size + 1) j
    have l : s.size ≤ (bytesRow s cap).size := by unfold bytesRow; simp
    have l2 : decide ((bytesRow s cap).size ≤ j) = false := by simp; omega
    rw [l2, Bool.false_and] at q
    exact q
/-- Such a row as a text. -/
theorem Bts.conv {w : World} {B n : Nat} {v : Nat → Int} (h : Bts w B n v) (cap : Nat) {T : ByteArray} (hT : strOfNums ((List.range n).map v) = T) :
    (convert 36 9 (.slice (some ⟨B, 0, none⟩) n cap)).run Try.prog w = .ok (.string T) w := by
  have c := run_convert_bytes_arg (P := Try.prog) w 36 5 Try.underlying36 Try.underlying5 B 0 n cap ((List.range n).map v) (by simp) (fun i hi => by
    rw [Nat.zero_add, h.cell i hi, List.getD_eq_getElem?_getD, List.getElem?_map, List.getElem?_range hi]; rfl) 9 Try.underlying9
  rw [hT] at c
  exact c

end Go.Proofs.Ytilebacnjagneaa
