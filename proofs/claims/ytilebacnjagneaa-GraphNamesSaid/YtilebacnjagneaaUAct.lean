/- The frame behind a region whose slots lie one behind the other: the slots ahead, the region's, the slots behind. No program is in sight. -/
import Derived.Test.YtilebacnjagneaaUDraw
namespace Go.Proofs.Ytilebacnjagneaa
set_option linter.unusedVariables false
open Go.RowKit

/-- Slots from p on have these values. -/
def SlotsAt (a : Act) (p : Nat) (vs : List Value) : Prop := ∀ i (h : i < vs.length), a.eval (.tmp (p + i)) = vs[i]
theorem SlotsAt.nil {a : Act} {p : Nat} : SlotsAt a p [] := fun _ h => absurd h (Nat.not_lt_zero _)
theorem SlotsAt.cons {a : Act} {p : Nat} {v : Value} {vs : List Value} (h : a.eval (.tmp p) = v) (k : SlotsAt a (p + 1) vs) : SlotsAt a p (v :: vs) := fun i hi => by
  cases i with
  | zero => exact h
  | succ i =>
    have := k i (by simpa using hi)
    rw [show p + (i + 1) = p + 1 + i by omega]
    simpa using this
theorem RestAt.frameT {ds : List Nat} {a0 a : Act} (h : RestAt ds a0 a) {p : Nat} {vs ts : List Value} {df : List Deferred} (h0 : a0 = ⟨ts.toArray, df⟩) (hd : ∀ j ∈ ds, p ≤ j ∧ j < p + vs.length) (hv : SlotsAt a p vs) (hn : p + vs.length ≤ ts.length) :
    a = ⟨(ts.take p ++ (vs ++ ts.drop (p + vs.length))).toArray, df⟩ := by
  subst h0
  obtain ⟨h1, h2, h3⟩ := h
  obtain ⟨tmps, defers⟩ := a
  have h2 : defers = df := h2
  have h1 : tmps.size = ts.length := by simpa using h1
  subst h2
  congr 1
  apply Array.ext
  · simp [h1]; omega
  · intro j hj1 hj2
    have e1 : tmps[j] = tmps.getD j undef := by rw [Array.getD_eq_getD_getElem?, Array.getElem?_eq_getElem hj1]; rfl
    have rest : ¬ (p ≤ j ∧ j < p + vs.length) → tmps[j] = ts[j]'(by omega) := fun no => by
      have h3 : tmps.getD j undef = ts.toArray.getD j undef := h3 j (fun m => no (hd j m))
      rw [e1, h3, Array.getD_eq_getD_getElem?, Array.getElem?_eq_getElem (by simp; omega)]
      simp
    simp only [List.getElem_toArray]
    by_cases c : j < p
    · rw [List.getElem_append_left (by simp; omega), List.getElem_take]
      exact rest (by omega)
    · rw [List.getElem_append_right (by simp; omega)]
      by_cases c2 : j < p + vs.length
      · rw [List.getElem_append_left (by simp; omega), e1]
        have := hv (j - p) (by omega)
        rw [show p + (j - p) = j by omega] at this
        have this : tmps.getD j undef = _ := this
        rw [this]
        congr 1
        simp; omega
      · rw [List.getElem_append_right (by simp; omega), List.getElem_drop, rest (by omega)]
        congr 1
        simp; omega
theorem act_lit {ts us : List Value} {df : List Deferred} (e : ts = us) : (⟨ts.toArray, df⟩ : Act) = ⟨us.toArray, df⟩ := by rw [e]

end Go.Proofs.Ytilebacnjagneaa
