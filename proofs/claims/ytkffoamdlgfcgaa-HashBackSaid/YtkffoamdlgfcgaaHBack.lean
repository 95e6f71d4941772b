/- The law HashBack: Back of Mix, and Mix of Back, is the number; no two numbers are mixed to one. No condition. -/
import Derived.Test.YtkffoamdlgfcgaaHAwake
import Derived.Test.YtkffoamdlgfcgaaSOpen
import Derived.Test.YtkffoamdlgfcgaaHOpen
import Derived.Lib.Hide
import Derived.Deep.DeepCutAuto
import Derived.WalkLawsBesides
import Derived.WalkSpells
namespace Go.Proofs.Ytkffoamdlgfcgaa
set_option linter.unusedVariables false
open Go.ChangeShapes Go.WideShapes Go.ChangeAt Go.RowKit Go.Joins
open Go.ChangeMaps (open_string shut_string)

set_option maxHeartbeats 4000000 in
theorem hashBack_walk (n0 : Int) (a0 : 0 ≤ n0) (a1 : n0 < 4294967296) (n1 : Int) (b0 : 0 ≤ n1) (b1 : n1 < 4294967296) (w : World) :
    Calls Try.prog 7 #[.int .u32 n0, .int .u32 n1] w fun e w' => e = .returned (.bool true) ∧ Wider w w' := by
  have G : Hid (Wider w w) := Wider.refl w
  obtain ⟨a, rfl⟩ : ∃ a : Nat, n0 = (a : Int) := ⟨n0.toNat, by omega⟩
  obtain ⟨b, rfl⟩ : ∃ b : Nat, n1 = (b : Int) := ⟨n1.toNat, by omega⟩
  obtain ⟨x, hx⟩ : ∃ x : BitVec 32, x.toNat = a := ⟨BitVec.ofNat 32 a, by rw [BitVec.toNat_ofNat]; omega⟩
  obtain ⟨y, hy⟩ : ∃ y : BitVec 32, y.toNat = b := ⟨BitVec.ofNat 32 b, by rw [BitVec.toNat_ofNat]; omega⟩
  obtain ⟨m, hm⟩ : ∃ m, (mixH x).toNat = m := ⟨_, rfl⟩
  obtain ⟨m2, hm2⟩ : ∃ m, (mixH y).toNat = m := ⟨_, rfl⟩
  obtain ⟨k, hk⟩ : ∃ k, (backH x).toNat = k := ⟨_, rfl⟩
  have z1 := hmix_c x hx hm
  have z2 := hback_c (mixH x) hm (r := a) (by rw [back_mix]; exact hx)
  have z3 := hback_c x hx hk
  have z4 := hmix_c (backH x) hk (r := a) (by rw [mix_back]; exact hx)
  have z5 := hmix_c y hy hm2
  have E : ((m : Int) == (m2 : Int)) = ((a : Int) == (b : Int)) := by
    rw [Bool.eq_iff_iff, beq_iff_eq, beq_iff_eq]
    have q := @mix_inj x y
    rw [← BitVec.toNat_inj, ← BitVec.toNat_inj, hm, hm2, hx, hy] at q
    omega
  have lm : m < 4294967296 := by rw [← hm]; exact lt32 _
  have lm2 : m2 < 4294967296 := by rw [← hm2]; exact lt32 _
  have lk : k < 4294967296 := by rw [← hk]; exact lt32 _
  clear hx hy hm hm2 hk
  go_enter Try.func7, Try.ntmps7
  go_wp2_with (first
    | (go_at_call 14; ((with_reducible refine (z1 _).mono ?_); rintro e w1 ⟨rfl, g⟩; replace G := htrans G g; clear g))
    | (go_at_call 16; ((with_reducible refine (z2 _).mono ?_); rintro e w1 ⟨rfl, g⟩; replace G := htrans G g; clear g))
    | (go_at_call 16; ((with_reducible refine (z3 _).mono ?_); rintro e w1 ⟨rfl, g⟩; replace G := htrans G g; clear g))
    | (go_at_call 14; ((with_reducible refine (z4 _).mono ?_); rintro e w1 ⟨rfl, g⟩; replace G := htrans G g; clear g))
    | (go_at_call 14; ((with_reducible refine (z5 _).mono ?_); rintro e w1 ⟨rfl, g⟩; replace G := htrans G g; clear g))
    | (go_at_call 11; ((with_reducible refine (awake4_c _).mono ?_); rintro e wa ⟨rfl, g⟩; replace G := htrans G g; clear g)))
  go_ret
  exact ⟨rfl, G.out⟩

set_option maxRecDepth 100000 in
theorem hashBack_lifted (os : Os) (started : os.Started) (H : Type) (enc : TypeId × Value → H) :
    ReturnsInHanded {} Try.checked os 7 .any (Rows.hashBackSpec.pre6 enc Try.prog Try.f7 Rows.hashBackRow.domain false) (Rows.hashBackSpec.post enc Try.prog Try.f7 false true false false) := by
  refine returnsInHanded_of_change (C := Try.checked) own started (by kernel_rfl) Try.func7
    (ChangeSpec.witness6 (enc := enc) (C := Try.checked) false ⟨#[], #[.int .u32 0, .int .u32 0], []⟩ 8 (by kernel_rfl) (by kernel_rfl) (by kernel_rfl) (by kernel_rfl)) ?_
  intro W base args ds gs before hval0 hW hcnd _
  have hval : ∀ (j : Nat) t v, Try.f7.params[j]? = some t → args[j]? = some v → Value.okWide Try.prog W .any base t v := hval0
  have hW' := hW
  obtain ⟨p, q, hA0, hV, rfl, hfz, hnd⟩ := hW
  have hA : DataW.TrodAll enc Try.prog W 0 (fun _ => true) true Try.f7.params.toList args.toList ds p := hA0
  rw [Try.params7] at hA hval
  obtain ⟨v0, vs0, d0, ds0, p0, q0, hargs, rfl, rfl, h0, r0⟩ := trodAll_cons hA
  obtain ⟨v1, vs1, d1, ds1, p1, q1, rfl, rfl, rfl, h1, r1⟩ := trodAll_cons r0
  obtain ⟨rfl, rfl, rfl⟩ := trodAll_nil r1
  obtain rfl : args = #[v0, v1] := by cases args; simp_all
  obtain ⟨rfl, rfl⟩ := trodVars_none hV
  obtain ⟨n0, rfl, rfl, rfl, w0⟩ := open_int Try.underlying23 (hval 0 23 v0 rfl rfl) h0
  obtain ⟨n1, rfl, rfl, rfl, w1⟩ := open_int Try.underlying23 (hval 1 23 v1 rfl rfl) h1
  clear hA0 hval0
  simp only [List.append_nil] at hW'
  refine (hashBack_walk n0 (bounds_u32 w0).1 (bounds_u32 w0).2 n1 (bounds_u32 w1).1 (bounds_u32 w1).2 W).mono fun e W' ⟨he, hg⟩ => ?_
  subst he
  exact ⟨_, rfl, post_of_none hW' (fun _ _ _ => (trodAll_cons_mk (shut_bool Try.underlying4 _) trodAll_mk0)) (fun sp => (trodAll_cons_mk (shut_int Try.underlying23 w0) (trodAll_cons_mk (shut_int Try.underlying23 w1) trodAll_mk0))) (fun _ => rfl)
    hg.1 (ok_one (by kernel_rfl) rfl (okWide_bool_mk Try.underlying4 _))⟩

theorem hashBack_holds : Rows.HashBackSaid :=
  OpenClaim.holds_of_wide 7 Try.f7 rfl rfl rfl rfl rfl rfl rfl ⟨rfl, rfl, rfl, rfl, rfl⟩ rfl rfl rfl rfl rfl (by kernel_rfl) Try.func7 (by kernel_rfl)
    (of_decide_eq_true (by kernel_rfl)) (by unfold Func.isWrapper; first | (rw [if_pos (by decide +kernel)]; kernel_rfl) | (rw [if_neg (by decide +kernel)]; exact ⟨rfl, rfl⟩))
    (fun os started H enc _ => hashBack_lifted os started H enc)

#print axioms hashBack_holds

end Go.Proofs.Ytkffoamdlgfcgaa
