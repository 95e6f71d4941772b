/- What awake of the statements of package buf answers: true: the examples are as they are told. It asks the contracts of BCode alone. -/
import Derived.Test.YtlgllgdaodfocaaBUse
import Derived.Lib.Hide
import Derived.Deep.DeepCutAuto
import Derived.WalkLawsBesides
import Derived.WalkSpells
import Derived.BigQuiet
import Derived.BigRegion
import Derived.Deep.RegionHeld3
namespace Go.Proofs.Ytlgllgdaodfocaa
set_option linter.unusedVariables false
open Go.ChangeShapes Go.WideShapes Go.ChangeAt Go.RowKit Go.Joins
open Go.ChangeMaps (open_string shut_string)

theorem bx1 : InsR ⟨#[1, 2, 3]⟩ 1 2 ⟨#[1, 0, 0, 2, 3]⟩ 0 := ⟨by decide +kernel, fun h => (by first | decide +kernel | exact absurd h (by decide)), fun h => (by first | rfl | exact absurd rfl h)⟩
theorem bx2 : DelR ⟨#[1, 0, 0, 2, 3]⟩ 0 3 ⟨#[2, 3]⟩ 0 := ⟨by decide +kernel, fun h => (by first | decide +kernel | exact absurd h (by decide)), fun h => (by first | rfl | exact absurd rfl h)⟩
theorem bx3 : GetR ⟨#[2, 3]⟩ 4 8 0 32 0 := ⟨by decide +kernel, fun _ => ⟨by decide +kernel, by decide +kernel⟩, fun h => absurd rfl h⟩
theorem bx4 : BPutR ⟨#[2, 3]⟩ 4 8 171#128 ⟨#[10, 179]⟩ 0 := ⟨by decide +kernel, fun _ => by decide +kernel, fun h => absurd rfl h⟩
theorem bx5 : BSumR ⟨#[10, 179]⟩ 0 2 2739 0 := ⟨by decide +kernel, fun h => (by first | decide +kernel | exact absurd h (by decide)), fun h => (by first | rfl | exact absurd rfl h)⟩
theorem bx6 : BSumR ⟨#[10, 179]⟩ 1 1 45824 0 := ⟨by decide +kernel, fun h => (by first | decide +kernel | exact absurd h (by decide)), fun h => (by first | rfl | exact absurd rfl h)⟩
theorem bx7 : DelR ⟨#[10, 179]⟩ 1 2 ⟨#[10, 179]⟩ 4 := ⟨by decide +kernel, fun h => (by first | decide +kernel | exact absurd h (by decide)), fun h => (by first | rfl | exact absurd rfl h)⟩
theorem bx8 : InsR ⟨#[10, 179]⟩ 3 0 ⟨#[10, 179]⟩ 4 := ⟨by decide +kernel, fun h => (by first | decide +kernel | exact absurd h (by decide)), fun h => (by first | rfl | exact absurd rfl h)⟩
theorem bx9 : InsR ⟨#[10, 179]⟩ 2 0 ⟨#[10, 179]⟩ 0 := ⟨by decide +kernel, fun h => (by first | decide +kernel | exact absurd h (by decide)), fun h => (by first | rfl | exact absurd rfl h)⟩
theorem bx_w : IsW 0 171 171#128 := ⟨by decide, by decide⟩

set_option maxHeartbeats 4000000 in
theorem awake5_c (w : World) :
    Calls Try.prog 11 #[] w fun e w' => e = .returned (.bool true) ∧ Wider w w' := by
  have H : Own w w [] := Own.nil (Wider.refl w)
  go_enter Try.func11, Try.ntmps11
  go_wp2_with (first
    | (go_at_call 25; ((with_reducible refine (of_1 ⟨#[1, 2, 3]⟩ (by decide) H).mono ?_); clear H; rintro e w1 ⟨p, rfl, H⟩))
    | (go_at_call 13; ((with_reducible refine (bins_1 H 1 2 (by decide) (by decide) (by decide) (by decide) bx1).mono ?_); clear H; rintro e w1 ⟨rfl, H⟩))
    | (go_at_call 14; ((with_reducible refine (bdel_1 H 0 3 (by decide) (by decide) (by decide) (by decide) bx2).mono ?_); clear H; rintro e w1 ⟨rfl, H⟩))
    | (go_at_call 16; ((with_reducible refine (bget_1 H 4 8 (by decide) (by decide) (by decide) (by decide) bx3).mono ?_); clear H; rintro e w1 ⟨rfl, H⟩; replace H := H.add 0 32 32; obtain ⟨k0, k1⟩ := H.word))
    | (go_at_call 15; ((with_reducible refine (bput_1 H 4 8 171#128 (by decide) (by decide) (by decide) (by decide) bx_w bx4).mono ?_); clear H k0 k1; rintro e w1 ⟨rfl, H⟩; replace H := H.less))
    | (go_at_call 15; ((with_reducible refine (bput_1 (H.alloc _) 4 8 171#128 (by decide) (by decide) (by decide) (by decide) bx_w bx4).mono ?_); clear H k0 k1; rintro e w1 ⟨rfl, H⟩; replace H := H.less))
    | (go_at_call 15; ((with_reducible refine (bput_1 ((H.alloc _).alloc _) 4 8 171#128 (by decide) (by decide) (by decide) (by decide) bx_w bx4).mono ?_); clear H k0 k1; rintro e w1 ⟨rfl, H⟩; replace H := H.less))
    | (go_at_call 18; ((with_reducible refine (btext_1 H).mono ?_); clear H; rintro e w1 ⟨rfl, H⟩))
    | (go_at_call 17; ((with_reducible refine (bsum_1 (v := 2739) H 0 2 (by decide) (by decide) (by decide) (by decide) bx5).mono ?_); clear H; rintro e w1 ⟨rfl, H⟩))
    | (go_at_call 17; ((with_reducible refine (bsum_1 (v := 45824) H 1 1 (by decide) (by decide) (by decide) (by decide) bx6).mono ?_); clear H; rintro e w1 ⟨rfl, H⟩))
    | (go_at_call 14; ((with_reducible refine (bdel_1 H 1 2 (by decide) (by decide) (by decide) (by decide) bx7).mono ?_); clear H; rintro e w1 ⟨rfl, H⟩))
    | (go_at_call 13; ((with_reducible refine (bins_1 H 3 0 (by decide) (by decide) (by decide) (by decide) bx8).mono ?_); clear H; rintro e w1 ⟨rfl, H⟩))
    | (go_at_call 13; ((with_reducible refine (bins_1 H 2 0 (by decide) (by decide) (by decide) (by decide) bx9).mono ?_); clear H; rintro e w1 ⟨rfl, H⟩))
    | (go_at_call 19; ((with_reducible refine (blen_1 H).mono ?_); clear H; rintro e w1 ⟨rfl, H⟩)))
  go_ret
  exact ⟨rfl, H.wider⟩

end Go.Proofs.Ytlgllgdaodfocaa
