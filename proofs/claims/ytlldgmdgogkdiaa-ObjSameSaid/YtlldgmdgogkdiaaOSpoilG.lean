/- Texts that belong together, one behind the other: OOwnH OSpoil. -/
import Derived.Test.YtlldgmdgogkdiaaOMsgA
import Derived.SizedLaws

/- Parts of messages that are set anew; a row's place in a struct. -/
namespace Go.Proofs.Ytlldgmdgogkdiaa
set_option linter.unusedVariables false
set_option maxRecDepth 20000
open Go.ChangeShapes Go.WideShapes Go.ChangeAt Go.RowKit Go.Joins
open Go.ChangeMaps (open_string shut_string)

theorem set_in {M : Array Value} {j a b : Nat} (v : Value) (h1 : a ≤ j) (h2 : j < b) (h3 : b ≤ M.size) : (M.setIfInBounds j v).extract a b = (M.extract a b).setIfInBounds (j - a) v := by
  apply Array.ext_getElem?
  intro i
  rw [extract_get _ a b i (by simpa using h3), Array.getElem?_setIfInBounds, Array.getElem?_setIfInBounds, extract_get _ a b i h3, Array.size_extract]
  by_cases c : j = a + i
  · subst c
    rw [if_pos h2, if_pos rfl, if_pos (by omega), if_pos (by omega), if_pos (by omega)]
  · by_cases c2 : a + i < b
    · rw [if_pos c2, if_neg c, if_neg (by omega), if_pos c2]
    · rw [if_neg c2, if_neg (by omega), if_neg c2]
theorem set_out {M : Array Value} {j a b : Nat} (v : Value) (h : j < a ∨ b ≤ j) (h3 : b ≤ M.size) : (M.setIfInBounds j v).extract a b = M.extract a b :=
  extract_same (by simp) (by simpa using h3) fun i h1 h2 => by rw [Array.getElem?_setIfInBounds_ne (by omega)]
theorem set_one {M : Array Value} {j : Nat} {v : Value} (h : M.all (·.oneCell') = true) (hv : v.oneCell' = true) : (M.setIfInBounds j v).all (·.oneCell') = true := by
  rw [Array.all_eq_true_iff_forall_mem] at h ⊢
  intro x hx
  rcases Array.mem_or_eq_of_mem_setIfInBounds hx with k | rfl
  · exact h x k
  · exact hv
theorem fieldRowNode (g : Nat) (w : World) : (Instr.fieldAt 27 (.pointer (some ⟨g, 11, none⟩)) 7).run Try.prog w = .ok (.pointer (some ⟨g, 18, none⟩)) w := by
  have h := run_fieldAt (P := Try.prog) (i := 7) (n := 0) Try.underlying27 rfl (by kernel_rfl) w g 11
  simpa using h
theorem fieldRowTable (g : Nat) (w : World) : (Instr.fieldAt 32 (.pointer (some ⟨g, 25, none⟩)) 2).run Try.prog w = .ok (.pointer (some ⟨g, 27, none⟩)) w := by
  have h := run_fieldAt (P := Try.prog) (i := 2) (n := 0) Try.underlying32 rfl (by kernel_rfl) w g 25
  simpa using h
theorem fieldRowEntry (g : Nat) (w : World) : (Instr.fieldAt 34 (.pointer (some ⟨g, 30, none⟩)) 6).run Try.prog w = .ok (.pointer (some ⟨g, 36, none⟩)) w := by
  have h := run_fieldAt (P := Try.prog) (i := 6) (n := 0) Try.underlying34 rfl (by kernel_rfl) w g 30
  simpa using h
theorem fieldRowBlock (g : Nat) (w : World) : (Instr.fieldAt 37 (.pointer (some ⟨g, 41, none⟩)) 1).run Try.prog w = .ok (.pointer (some ⟨g, 42, none⟩)) w := by
  have h := run_fieldAt (P := Try.prog) (i := 1) (n := 0) Try.underlying37 rfl (by kernel_rfl) w g 41
  simpa using h
theorem fieldRowGroup (g : Nat) (w : World) : (Instr.fieldAt 40 (.pointer (some ⟨g, 43, none⟩)) 3).run Try.prog w = .ok (.pointer (some ⟨g, 46, none⟩)) w := by
  have h := run_fieldAt (P := Try.prog) (i := 3) (n := 0) Try.underlying40 rfl (by kernel_rfl) w g 43
  simpa using h
theorem cell_of {M : Array Value} {o a b : Nat} {v : Value} (j : Nat) (h : (M.extract a b)[j]? = some v) (hb : b ≤ M.size) (e : a + j = o) : M[o]? = some v := by
  subst e
  rw [extract_get M a b j hb] at h
  split at h
  · exact h
  · cases h
end Go.Proofs.Ytlldgmdgogkdiaa

/- The helper spoil of layer 8's laws: it writes over lists that lie in new memory, by a walk. -/
namespace Go.Proofs.Ytlldgmdgogkdiaa
set_option linter.unusedVariables false
set_option maxRecDepth 20000
open Go.ChangeShapes Go.WideShapes Go.ChangeAt Go.RowKit Go.Joins
open Go.ChangeMaps (open_string shut_string)

/-- A row has so many cells, in a block that is new since V, below b. -/
def Room (V w : World) (b : Nat) (A : Option Addr) (m : Nat) : Prop :=
  m = 0 ∨ ∃ g cur t, A = some ⟨g, 0, none⟩ ∧ w.heap[g]? = some (.cells cur t (0, 0)) ∧ m ≤ cur.size ∧ V.heap.size ≤ g ∧ g < b
theorem Room.nil {V w : World} {b : Nat} {A : Option Addr} : Room V w b A 0 := .inl rfl
theorem Room.on {V W w : World} {b c : Nat} {A : Option Addr} {m : Nat} (h : Room V W b A m) (g : Wider W w) (hb : b ≤ c) : Room V w c A m := by
  rcases h with h | ⟨g1, cur, t, e, hh, hm, h1, h2⟩
  · exact .inl h
  · exact .inr ⟨g1, cur, t, e, wide_blk hh g, hm, h1, by omega⟩
theorem Room.less {V V2 w : World} {b : Nat} {A : Option Addr} {m : Nat} (h : Room V w b A m) (hv : V2.heap.size ≤ V.heap.size) : Room V2 w b A m := by
  rcases h with h | ⟨g1, cur, t, e, hh, hm, h1, h2⟩
  · exact .inl h
  · exact .inr ⟨g1, cur, t, e, hh, hm, by omega, h2⟩
theorem room_owns {w : World} {V : World} {b n size cap : Nat} {e : TypeId} {A : Option Addr} {xs : List Value} (h : w.ownsRow b e size (.slice A n cap) n xs) (hb : V.heap.size ≤ b) : Room V w w.heap.size A (n * size) := by
  rcases h.2 with ⟨q, h0⟩ | ⟨g, cap', cur, q, hg, hh, h1, h2, h3, _⟩
  · exact .inl (by rw [h0, Nat.zero_mul])
  · injection q with q1 q2 q3
    exact .inr ⟨g, cur, e, q1, hh, by rw [h3]; exact Nat.mul_le_mul_right _ h1, by omega, (Array.getElem?_eq_some_iff.1 hh).1⟩
theorem Room.set {V w : World} {b : Nat} {A : Option Addr} {m : Nat} (h : Room V w b A m) (g j : Nat) (v : Value) : Room V (w.setCell ⟨g, j, none⟩ v) b A m := by
  rcases h with h | ⟨g1, cur, t, e, hh, hm, h1, h2⟩
  · exact .inl h
  · by_cases c : g1 = g
    · subst c
      exact .inr ⟨g1, _, t, e, set_blk v hh, by simpa using hm, h1, h2⟩
    · exact .inr ⟨g1, cur, t, e, but_blk hh (setCell_but w ⟨g, j, none⟩ v) c, hm, h1, h2⟩
structure SpoilAt (V : World) (b : Nat) (M : Array Value) (A0 A1 A2 A3 A4 : Option Addr) (m0 m1 m2 m3 m4 : Nat) (w : World) : Prop where
  wide : Wider V w
  box : w.heap[b]? = some (.cells M 46 (0, 0))
  r0 : Room V w b A0 m0
  r1 : Room V w b A1 m1
  r2 : Room V w b A2 m2
  r3 : Room V w b A3 m3
  r4 : Room V w b A4 m4
theorem SpoilAt.set {V : World} {b : Nat} {M : Array Value} {A0 A1 A2 A3 A4 : Option Addr} {m0 m1 m2 m3 m4 : Nat} {w : World} (h : SpoilAt V b M A0 A1 A2 A3 A4 m0 m1 m2 m3 m4 w) {g : Nat} (h1 : V.heap.size ≤ g) (h2 : g < b) (j : Nat) (v : Value) : SpoilAt V b M A0 A1 A2 A3 A4 m0 m1 m2 m3 m4 (w.setCell ⟨g, j, none⟩ v) :=
  ⟨(setCell_but w ⟨g, j, none⟩ v).wider h.wide (fun i m => by simp only [List.mem_singleton] at m; subst m; exact h1), but_blk h.box (setCell_but w ⟨g, j, none⟩ v) (by show b ≠ g; omega), h.r0.set g j v, h.r1.set g j v, h.r2.set g j v, h.r3.set g j v, h.r4.set g j v⟩
theorem SpoilAt.sets {V : World} {b : Nat} {M : Array Value} {A0 A1 A2 A3 A4 : Option Addr} {m0 m1 m2 m3 m4 : Nat} {g : Nat} (h1 : V.heap.size ≤ g) (h2 : g < b) : ∀ (vs : List Value) (j : Nat) (w : World), SpoilAt V b M A0 A1 A2 A3 A4 m0 m1 m2 m3 m4 w → SpoilAt V b M A0 A1 A2 A3 A4 m0 m1 m2 m3 m4 (w.setCells g j vs)
  | [], _, _, h => h
  | v :: vs, j, w, h => SpoilAt.sets h1 h2 vs (j + 1) _ (h.set h1 h2 j v)
theorem blk_there {w : World} {g : Nat} {C : Array Value} {t : TypeId} (h : w.heap[g]? = some (.cells C t (0, 0))) (o n : Nat) (hn : o + n ≤ C.size) : w.there g o n := fun j hj => by
  refine ⟨?_, blk_free h _⟩
  rw [blk_cell h (o + j) (Array.getElem?_eq_getElem (by omega))]
  rfl
end Go.Proofs.Ytlldgmdgogkdiaa
