/- The law HashNames: the examples; hashes that are known; rows at their ends. A closed statement: no condition. -/
import Derived.Test.YtkffoamdlgfcgaaHAwake
import Derived.Test.YtkffoamdlgfcgaaSOpen
import Derived.Test.YtkffoamdlgfcgaaHOpen
import Derived.Lib.Hide
import Derived.Deep.DeepCutAuto
import Derived.WalkLawsBesides
import Derived.WalkSpells
namespace Go.Proofs.Ytkffoamdlgfcgaa
set_option linter.unusedVariables false
open Go.ChangeShapes Go.WideShapes Go.ChangeAt Go.RowKit Go.Joins
open Go.ChangeMaps (open_string shut_string)

theorem hn0 (W : World) : Calls Try.prog 12 #[.slice (some ⟨W.heap.size, 0, none⟩) 1 1] (W.alloc (.cells #[.string ⟨#[]⟩] 9)) fun e w' => e = .returned (.int .u32 2166136261) ∧ Wider W w' :=
  hof_l [⟨#[]⟩] 1 _ (r := 2166136261) rfl rfl (by decide) (by decide) (by decide +kernel) W
theorem hn1 (W : World) : Calls Try.prog 12 #[.slice (some ⟨W.heap.size, 0, none⟩) 1 1] (W.alloc (.cells #[.string ⟨#[98]⟩] 9)) fun e w' => e = .returned (.int .u32 3876335077) ∧ Wider W w' :=
  hof_l [⟨#[98]⟩] 1 _ (r := 3876335077) rfl rfl (by decide) (by decide) (by decide +kernel) W
theorem hn2 (W : World) : Calls Try.prog 12 #[.slice (some ⟨W.heap.size, 0, none⟩) 3 3] (W.alloc (.cells #[.string ⟨#[102, 111, 111]⟩, .string ⟨#[]⟩, .string ⟨#[98, 97, 114]⟩] 9)) fun e w' => e = .returned (.int .u32 3214735720) ∧ Wider W w' :=
  hof_l [⟨#[102, 111, 111]⟩, ⟨#[]⟩, ⟨#[98, 97, 114]⟩] 3 _ (r := 3214735720) rfl rfl (by decide) (by decide) (by decide +kernel) W
theorem hn3 (w : World) : Calls Try.prog 18 #[.int .u32 2166136261, .string ⟨#[97]⟩] w fun e w' => e = .returned (.int .u32 3826002220) ∧ Wider w w' :=
  hmore_i 2166136261 ⟨#[97]⟩ 2166136261 3826002220 (r := 3826002220) (by decide) (by omega) (by omega) (by decide +kernel) w
theorem hn4 (w : World) : Calls Try.prog 18 #[.int .u32 7, .string ⟨#[]⟩] w fun e w' => e = .returned (.int .u32 7) ∧ Wider w w' :=
  hmore_i 7 ⟨#[]⟩ 7 7 (r := 7) (by decide) (by omega) (by omega) (by decide +kernel) w
theorem hn5 (w : World) : Calls Try.prog 14 #[.int .u32 1] w fun e w' => e = .returned (.int .u32 1364076727) ∧ Wider w w' :=
  hmix_i 1 1 1364076727 (r := 1364076727) (by omega) (by omega) (by decide +kernel) w
theorem hn6 (w : World) : Calls Try.prog 16 #[.int .u32 1364076727] w fun e w' => e = .returned (.int .u32 1) ∧ Wider w w' :=
  hback_i 1364076727 1364076727 1 (r := 1) (by omega) (by omega) (by decide +kernel) w
theorem hn7 (w : World) : Calls Try.prog 16 #[.int .u32 0] w fun e w' => e = .returned (.int .u32 0) ∧ Wider w w' :=
  hback_i 0 0 0 (r := 0) (by omega) (by omega) (by decide +kernel) w
theorem hn8 (w : World) : Calls Try.prog 20 #[.int .u32 5, .int .i64 (0)] w fun e w' => e = .returned (.int .i64 0) ∧ Wider w w' :=
  hslot_i 5 5 (0) 0 (r := 0) (by omega) (by omega) (by decide) (by decide) (by decide) (by decide) w
theorem hn9 (w : World) : Calls Try.prog 20 #[.int .u32 5, .int .i64 (-3)] w fun e w' => e = .returned (.int .i64 0) ∧ Wider w w' :=
  hslot_i 5 5 (-3) 0 (r := 0) (by omega) (by omega) (by decide) (by decide) (by decide) (by decide) w
theorem hn10 (w : World) : Calls Try.prog 20 #[.int .u32 4294967295, .int .i64 (1)] w fun e w' => e = .returned (.int .i64 0) ∧ Wider w w' :=
  hslot_i 4294967295 4294967295 (1) 0 (r := 0) (by omega) (by omega) (by decide) (by decide) (by decide) (by decide) w
theorem hn11 (w : World) : Calls Try.prog 20 #[.int .u32 4294967295, .int .i64 (4611686018427387904)] w fun e w' => e = .returned (.int .i64 2147483646) ∧ Wider w w' :=
  hslot_i 4294967295 4294967295 (4611686018427387904) 2147483646 (r := 2147483646) (by omega) (by omega) (by decide) (by decide) (by decide) (by decide) w
theorem hn12 (w : World) : Calls Try.prog 20 #[.int .u32 4294967295, .int .i64 (2147483647)] w fun e w' => e = .returned (.int .i64 2147483646) ∧ Wider w w' :=
  hslot_i 4294967295 4294967295 (2147483647) 2147483646 (r := 2147483646) (by omega) (by omega) (by decide) (by decide) (by decide) (by decide) w

set_option maxHeartbeats 4000000 in
theorem hashNames_walk (w : World) :
    Calls Try.prog 5 #[] w fun e w' => e = .returned (.bool true) ∧ Wider w w' := by
  have G : Hid (Wider w w) := Wider.refl w
  go_enter Try.func5, Try.ntmps5
  go_wp2_with (first
    | (go_at_call 11; ((with_reducible refine (awake4_c _).mono ?_); rintro e wa ⟨rfl, g⟩; replace G := htrans G g; clear g))
    | (go_at_call 12; ((with_reducible refine (hn0 _).mono ?_); rintro e w1 ⟨rfl, g⟩; replace G := htrans G g; clear g))
    | (go_at_call 12; ((with_reducible refine (hn1 _).mono ?_); rintro e w1 ⟨rfl, g⟩; replace G := htrans G g; clear g))
    | (go_at_call 12; ((with_reducible refine (hn2 _).mono ?_); rintro e w1 ⟨rfl, g⟩; replace G := htrans G g; clear g))
    | (go_at_call 18; ((with_reducible refine (hn3 _).mono ?_); rintro e w1 ⟨rfl, g⟩; replace G := htrans G g; clear g))
    | (go_at_call 18; ((with_reducible refine (hn4 _).mono ?_); rintro e w1 ⟨rfl, g⟩; replace G := htrans G g; clear g))
    | (go_at_call 14; ((with_reducible refine (hn5 _).mono ?_); rintro e w1 ⟨rfl, g⟩; replace G := htrans G g; clear g))
    | (go_at_call 16; ((with_reducible refine (hn6 _).mono ?_); rintro e w1 ⟨rfl, g⟩; replace G := htrans G g; clear g))
    | (go_at_call 16; ((with_reducible refine (hn7 _).mono ?_); rintro e w1 ⟨rfl, g⟩; replace G := htrans G g; clear g))
    | (go_at_call 20; ((with_reducible refine (hn8 _).mono ?_); rintro e w1 ⟨rfl, g⟩; replace G := htrans G g; clear g))
    | (go_at_call 20; ((with_reducible refine (hn9 _).mono ?_); rintro e w1 ⟨rfl, g⟩; replace G := htrans G g; clear g))
    | (go_at_call 20; ((with_reducible refine (hn10 _).mono ?_); rintro e w1 ⟨rfl, g⟩; replace G := htrans G g; clear g))
    | (go_at_call 20; ((with_reducible refine (hn11 _).mono ?_); rintro e w1 ⟨rfl, g⟩; replace G := htrans G g; clear g))
    | (go_at_call 20; ((with_reducible refine (hn12 _).mono ?_); rintro e w1 ⟨rfl, g⟩; replace G := htrans G g; clear g)))
  go_ret
  exact ⟨rfl, G.out⟩

set_option maxRecDepth 100000 in
theorem hashNames_lifted (os : Os) (started : os.Started) (H : Type) (enc : TypeId × Value → H) :
    ReturnsInHanded {} Try.checked os 5 .any (Rows.hashNamesSpec.pre6 enc Try.prog Try.f5 Rows.hashNamesRow.domain false) (Rows.hashNamesSpec.post enc Try.prog Try.f5 false true false false) := by
  refine returnsInHanded_of_change (C := Try.checked) own started (by kernel_rfl) Try.func5
    (ChangeSpec.witness6 (enc := enc) (C := Try.checked) false ⟨#[], #[], []⟩ 8 (by kernel_rfl) (by kernel_rfl) (by kernel_rfl) (by kernel_rfl)) ?_
  intro W base args ds gs before hval0 hW hcnd _
  have hval : ∀ (j : Nat) t v, Try.f5.params[j]? = some t → args[j]? = some v → Value.okWide Try.prog W .any base t v := hval0
  have hW' := hW
  obtain ⟨p, q, hA0, hV, rfl, hfz, hnd⟩ := hW
  have hA : DataW.TrodAll enc Try.prog W 0 (fun _ => true) true Try.f5.params.toList args.toList ds p := hA0
  rw [Try.params5] at hA hval
  obtain ⟨hargs, rfl, rfl⟩ := trodAll_nil hA
  obtain rfl : args = #[] := by cases args; simp_all
  obtain ⟨rfl, rfl⟩ := trodVars_none hV
  clear hA0 hval0
  simp only [List.append_nil] at hW'
  refine (hashNames_walk  W).mono fun e W' ⟨he, hg⟩ => ?_
  subst he
  exact ⟨_, rfl, post_of_none hW' (fun _ _ _ => (trodAll_cons_mk (shut_bool Try.underlying4 _) trodAll_mk0)) (fun sp => trodAll_mk0) (fun _ => rfl)
    hg.1 (ok_one (by kernel_rfl) rfl (okWide_bool_mk Try.underlying4 _))⟩

theorem hashNames_holds : Rows.HashNamesSaid :=
  OpenClaim.holds_of_wide 5 Try.f5 rfl rfl rfl rfl rfl rfl rfl ⟨rfl, rfl, rfl, rfl, rfl⟩ rfl rfl rfl rfl rfl (by kernel_rfl) Try.func5 (by kernel_rfl)
    (of_decide_eq_true (by kernel_rfl)) (by unfold Func.isWrapper; first | (rw [if_pos (by decide +kernel)]; kernel_rfl) | (rw [if_neg (by decide +kernel)]; exact ⟨rfl, rfl⟩))
    (fun os started H enc _ => hashNames_lifted os started H enc)

#print axioms hashNames_holds

end Go.Proofs.Ytkffoamdlgfcgaa
