/- The examples that each law of layer 8 asks. -/
import Derived.Test.YtilpimilbjcifaaGreatDoorOTopB
import Derived.Test.YtilpimilbjcifaaGreatDoorOTopG
import Derived.Test.YtilpimilbjcifaaGreatDoorORdG
namespace Go.Proofs.YtilpimilbjcifaaGreatDoor
set_option linter.unusedVariables false
set_option maxRecDepth 20000
open Go.ChangeShapes Go.WideShapes Go.ChangeAt Go.RowKit Go.Joins
open Go.ChangeMaps (open_string shut_string)

theorem n5 : numB 5 = [5] := by rw [numB_pos 5 (by decide), show 5 / 256 = 0 from rfl, numB_0]; rfl
theorem n300 : numB 300 = [1, 44] := by rw [numB_pos 300 (by decide), numB_pos (300 / 256) (by decide), show 300 / 256 / 256 = 0 from rfl, numB_0]; rfl
theorem n22 : numB 22 = [22] := by rw [numB_pos 22 (by decide), show 22 / 256 = 0 from rfl, numB_0]; rfl
theorem n1 : numB 1 = [1] := by rw [numB_pos 1 (by decide), show 1 / 256 = 0 from rfl, numB_0]; rfl
theorem eRegs : encG csRegs [.num 5, .num 300] = ⟨#[1, 0, 1, 5, 2, 0, 2, 1, 44]⟩ := by
  have a : attrsG 1 csRegs [.num 5, .num 300] = [⟨1, mkB [5]⟩, ⟨2, mkB [1, 44]⟩] := by
    have e1 : nI.enc (.num 5) = mkB [5] := by show mkB (numB 5) = _; rw [n5]
    have e2 : nI.enc (.num 300) = mkB [1, 44] := by show mkB (numB 300) = _; rw [n300]
    simp only [attrsG, csRegs, e1, e2]
    rfl
  unfold encG
  rw [a]
  rfl
theorem eInstr : encG csInstr [22, 0, 0, 0, 0, 0, 0] = ⟨#[1, 0, 1, 22]⟩ := by
  have a : attrsG 1 csInstr [22, 0, 0, 0, 0, 0, 0] = [⟨1, mkB [22]⟩] := by
    have e1 : iB.enc 22 = mkB [22] := by show mkB (numB 22) = _; rw [n22]
    have e2 : iB.enc 0 = mkB [] := by show mkB (numB 0) = _; rw [numB_0]
    have e3 : iI.enc 0 = mkB [] := by show mkB (numB 0) = _; rw [numB_0]
    have e4 : iU.enc 0 = mkB [] := by show mkB (numB 0) = _; rw [numB_0]
    simp only [attrsG, csInstr, e1, e2, e3, e4]
    rfl
  unfold encG
  rw [a]
  rfl
theorem eBlock : encG csBlock [.num 1, .lst [[22, 0, 0, 0, 0, 0, 0]]] = ⟨#[1, 0, 1, 1, 2, 0, 6, 0, 4, 1, 0, 1, 22]⟩ := by
  have a : attrsG 1 csBlock [.num 1, .lst [[22, 0, 0, 0, 0, 0, 0]]] = [⟨1, mkB [1]⟩, ⟨2, mkB [0, 4, 1, 0, 1, 22]⟩] := by
    have e1 : nI.enc (.num 1) = mkB [1] := by show mkB (numB 1) = _; rw [n1]
    have e2 : lCode.enc (.lst [[22, 0, 0, 0, 0, 0, 0]]) = mkB [0, 4, 1, 0, 1, 22] := by
      show encT [encG csInstr [22, 0, 0, 0, 0, 0, 0]] = _
      rw [eInstr]; rfl
    simp only [attrsG, csBlock, e1, e2]
    rfl
  unfold encG
  rw [a]
  rfl
theorem eField : encG csField [.num 0, .num 0, .num 0, .num 0, .num 0] = ⟨#[]⟩ := encG_zero csField
theorem eMeter : decG csMeter [1, 0, 2, 0, 5] = ([.num 0, .num 0, .num 0], 3) := by
  have d : decA [] 0 [1, 0, 2, 0, 5] = ([⟨1, mkB [0, 5]⟩], 0) := by
    rw [decA_some, if_neg (by decide), if_neg (by decide)]
    show decA [⟨1, mkB [0, 5]⟩] 1 [] = _
    rw [decA_nil]
  unfold decG
  rw [d]
  rfl
theorem wfZ : ∀ x ∈ ([[22, 0, 0, 0, 0, 0, 0]] : List (List Int)), wfK ksInstr x := by
  intro x hx
  obtain rfl := List.mem_singleton.1 hx
  refine ⟨rfl, fun i k n h1 h2 => ?_⟩
  match i, h1, h2 with
  | 0, h1, h2 => simp [ksInstr] at h1 h2; subst h1 h2; rfl
  | 1, h1, h2 => simp [ksInstr] at h1 h2; subst h1 h2; rfl
  | 2, h1, h2 => simp [ksInstr] at h1 h2; subst h1 h2; rfl
  | 3, h1, h2 => simp [ksInstr] at h1 h2; subst h1 h2; rfl
  | 4, h1, h2 => simp [ksInstr] at h1 h2; subst h1 h2; rfl
  | 5, h1, h2 => simp [ksInstr] at h1 h2; subst h1 h2; rfl
  | 6, h1, h2 => simp [ksInstr] at h1 h2; subst h1 h2; rfl
  | i + 7, h1, h2 => simp [ksInstr] at h1
end Go.Proofs.YtilpimilbjcifaaGreatDoor
