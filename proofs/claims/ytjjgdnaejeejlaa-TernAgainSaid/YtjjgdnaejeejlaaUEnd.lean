/- The law TernAgain: the calls plain and Same beside a set; what is left when the item that was put again is taken out. -/
import Derived.Test.YtjjgdnaejeejlaaUPlain
namespace Go.Proofs.Ytjjgdnaejeejlaa
set_option linter.unusedVariables false
open Go.RowKit

theorem splain_o {V w : World} {R : List Thing} {S : Nat} {L : List ItN} {N : Nat} (K : SetIs V w R S L N) {A : Option Addr} {n c : Nat} {M : List ItN} {R' : List Thing} (hR : R.Perm (rowI (.slice A n c) n M :: R')) (hn : M.length = n) (hl : n < 100000) :
    Calls Try.prog 25 #[.slice A n c] w fun e w' => ∃ B c', e = .returned (.slice B n c') ∧ SetIs V w' (rowJ (.slice B n c') n M :: R') S L N := by
  obtain ⟨s, e0, H, hs⟩ := K.perm hR
  refine (uplain_c (H.perm List.perm_middle) hn hl).mono ?_
  rintro e w' ⟨B, c', e1, H1⟩
  exact ⟨B, c', e1, s, e0, H1.perm List.perm_middle.symm, hs⟩
theorem ssame_o {V w : World} {R : List Thing} {S : Nat} {L : List ItN} {N : Nat} (K : SetIs V w R S L N) {A B : Option Addr} {n c d : Nat} {M : List ItN} (ha : rowJ (.slice A n c) n M ∈ R) (hb : rowJ (.slice B n d) n M ∈ R) (hn : M.length = n) (hl : n < 100000) :
    Calls Try.prog 24 #[.slice A n c, .slice B n d] w fun e w' => e = .returned (.bool true) ∧ SetIs V w' R S L N := by
  obtain ⟨s, e0, H, hs⟩ := K
  refine (usame_c H (List.mem_append_right _ ha) (List.mem_append_right _ hb) hn hl).mono ?_
  rintro e w' ⟨e1, H1⟩
  exact ⟨e1, s, e0, H1, hs⟩
theorem again_del {M rest : List ItN} {kx mx : ByteArray} {px v : Int} (hM : rest ++ [⟨kx, mx, px, v⟩] = M) (hno : ∀ y ∈ rest, ¬ SameN y ⟨kx, mx, px, 0⟩) : (∃ y ∈ M, SameN y ⟨kx, mx, px, 0⟩) ∧ delL M kx mx px = rest := by
  subst hM
  refine ⟨⟨⟨kx, mx, px, v⟩, by simp, rfl, rfl, rfl⟩, ?_⟩
  unfold delL
  have c : butL (rest ++ [⟨kx, mx, px, v⟩]) ⟨kx, mx, px, 0⟩ = butL rest ⟨kx, mx, px, 0⟩ ++ butL [⟨kx, mx, px, v⟩] ⟨kx, mx, px, 0⟩ := by
    unfold butL
    rw [List.filter_append]
  rw [c, butL_none hno]
  simp [butL, SameN]

end Go.Proofs.Ytjjgdnaejeejlaa
