/- Attributes in memory, and lists of texts. No program is in sight. -/
import Derived.Test.YtilebacnjagneaaRowT
import Derived.Test.YtilebacnjagneaaTMath
import Derived.Test.YtilebacnjagneaaStrs
namespace Go.Proofs.Ytilebacnjagneaa
set_option linter.unusedVariables false
open Go.RowKit

def cellA (a : AtN) : List Value := [.int .u8 (a.t : Int), .string a.v]
def cellsA (l : List AtN) : List Value := l.flatMap cellA
theorem cellsA_nil : cellsA [] = [] := rfl
theorem cellsA_cons (a : AtN) (l : List AtN) : cellsA (a :: l) = .int .u8 (a.t : Int) :: .string a.v :: cellsA l := rfl
theorem cellsA_snoc (l : List AtN) (a : AtN) : cellsA (l ++ [a]) = cellsA l ++ [.int .u8 (a.t : Int), .string a.v] := by simp [cellsA, cellA]
theorem cellsA_length (l : List AtN) : (cellsA l).length = l.length * 2 := by
  induction l with
  | nil => rfl
  | cons a l ih => rw [cellsA_cons]; simp only [List.length_cons]; rw [ih]; omega
theorem cellsA_at : ∀ (l : List AtN) (j : Nat) (x : AtN), l[j]? = some x → (cellsA l)[j * 2]? = some (.int .u8 (x.t : Int)) ∧ (cellsA l)[j * 2 + 1]? = some (.string x.v) := by
  intro l
  induction l with
  | nil => intro j x h; simp at h
  | cons a l ih =>
    intro j x h
    rw [cellsA_cons]
    cases j with
    | zero => simp at h; subst h; simp
    | succ j =>
      have := ih j x (by simpa using h)
      have e : (j + 1) * 2 = j * 2 + 1 + 1 := by omega
      rw [e]
      simpa using this
theorem cellsA_set : ∀ (l : List AtN) (j : Nat) (x : AtN), j < l.length → ((cellsA l).set (j * 2) (.int .u8 (x.t : Int))).set (j * 2 + 1) (.string x.v) = cellsA (l.set j x) := by
  intro l
  induction l with
  | nil => intro j x h; simp at h
  | cons a l ih =>
    intro j x h
    rw [cellsA_cons]
    cases j with
    | zero => simp [cellsA_cons]
    | succ j =>
      have := ih j x (by simpa using h)
      have e : (j + 1) * 2 = j * 2 + 1 + 1 := by omega
      rw [e]
      simp only [List.set_cons_succ, cellsA_cons]
      rw [this]
theorem cellsA_one (l : List AtN) : ∀ u ∈ cellsA l, u.oneCell' = true := by
  induction l with
  | nil => simp [cellsA_nil]
  | cons a l ih =>
    intro u hu
    rw [cellsA_cons] at hu
    simp only [List.mem_cons] at hu
    rcases hu with rfl | rfl | hu
    · rfl
    · rfl
    · exact ih u hu
/-- An attribute's two cells at a. -/
structure AtAt (w : World) (a : Addr) (x : AtN) : Prop where
  c0 : w.cell? a = some (.int .u8 (x.t : Int))
  c1 : w.cell? (a.add 1) = some (.string x.v)
theorem AtAt.on {W w : World} {a : Addr} {x : AtN} (h : AtAt W a x) (g : Wider W w) : AtAt w a x := ⟨wkeep g h.c0, wkeep g h.c1⟩
theorem AtAt.flat {w : World} {a : Addr} {x : AtN} (h : AtAt w a x) : w.cell? ⟨a.block, a.off + 1, none⟩ = some (.string x.v) := by
  have e : a.add 1 = ⟨a.block, a.off + 1, none⟩ := by unfold Addr.add; simp
  rw [← e]; exact h.c1
structure AtsAt (w : World) (A : Option Addr) (l : List AtN) : Prop where
  none_ : A = none → l = []
  cell : ∀ a, A = some a → ∀ j x, l[j]? = some x → AtAt w (a.add (j * 2)) x
theorem AtsAt.on {W w : World} {A : Option Addr} {l : List AtN} (h : AtsAt W A l) (g : Wider W w) : AtsAt w A l :=
  ⟨h.none_, fun a e j s hs => (h.cell a e j s hs).on g⟩
theorem addr_add2 (a : Addr) (i j : Nat) : (a.add i).add j = a.add (i + j) := by
  unfold Addr.add
  by_cases hi : i = 0 <;> by_cases hj : j = 0 <;> simp [hi, hj, Nat.add_assoc]
theorem atsAt_own {w : World} {b : Nat} {e : TypeId} {v : Value} {n : Nat} {l : List AtN} (h : w.ownsRow b e 2 v n (cellsA l)) : ∃ A cap, v = .slice A n cap ∧ AtsAt w A l ∧ l.length = n := by
  have hl := h.1
  rw [cellsA_length] at hl
  have hn : l.length = n := by omega
  have hh := h
  rcases h.2 with ⟨rfl, rfl⟩ | ⟨g, cap, cur, rfl, _⟩
  · have e0 : l = [] := List.eq_nil_of_length_eq_zero hn
    subst e0
    exact ⟨none, 0, rfl, ⟨fun _ => rfl, fun a e => by cases e⟩, hn⟩
  · refine ⟨_, cap, rfl, ⟨(fun e => by cases e), fun a e j x hx => ?_⟩, hn⟩
    obtain rfl : (⟨g, 0, none⟩ : Addr) = a := by injection e
    obtain ⟨q0, q1⟩ := cellsA_at l j x hx
    refine ⟨hh.cells rfl _ _ q0, ?_⟩
    rw [addr_add2]
    exact hh.cells rfl _ _ q1
def cellsS (l : List ByteArray) : List Value := l.map Value.string
theorem cellsS_length (l : List ByteArray) : (cellsS l).length = l.length := by simp [cellsS]
theorem cellsS_snoc (l : List ByteArray) (s : ByteArray) : cellsS (l ++ [s]) = cellsS l ++ [.string s] := by simp [cellsS]
theorem cellsS_one (l : List ByteArray) : ∀ u ∈ cellsS l, u.oneCell' = true := by
  intro u hu
  obtain ⟨s, _, rfl⟩ := List.mem_map.1 hu
  rfl
theorem strsAt_own {w : World} {b : Nat} {e : TypeId} {v : Value} {n : Nat} {l : List ByteArray} (h : w.ownsRow b e 1 v n (cellsS l)) : ∃ A cap, v = .slice A n cap ∧ StrsAt w A l ∧ l.length = n := by
  have hl := h.1
  rw [cellsS_length] at hl
  have hn : l.length = n := by omega
  have hh := h
  rcases h.2 with ⟨rfl, rfl⟩ | ⟨g, cap, cur, rfl, _⟩
  · have e0 : l = [] := List.eq_nil_of_length_eq_zero hn
    subst e0
    exact ⟨none, 0, rfl, StrsAt.nil w, hn⟩
  · refine ⟨_, cap, rfl, ⟨(fun e => by cases e), fun a e j x hx => ?_⟩, hn⟩
    obtain rfl : (⟨g, 0, none⟩ : Addr) = a := by injection e
    exact hh.cells rfl _ _ (by simp [cellsS, hx])
/-- The next one of a list. -/
theorem take_next {α : Type} (l : List α) (k : Nat) (x : α) (h : l[k]? = some x) : l.take (k + 1) = l.take k ++ [x] := by
  obtain ⟨hk, rfl⟩ := List.getElem?_eq_some_iff.1 h
  rw [List.take_succ_eq_append_getElem hk]
theorem next_some {α : Type} (l : List α) (k : Nat) (h : k < l.length) : ∃ x, l[k]? = some x := ⟨l[k], List.getElem?_eq_getElem h⟩

end Go.Proofs.Ytilebacnjagneaa
