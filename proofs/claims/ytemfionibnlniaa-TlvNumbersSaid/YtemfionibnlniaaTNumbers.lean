/- The law TlvNumbers: any number's bytes, and the number of any bytes, are the document's, or it is refused. No condition. -/
import Derived.Test.YtemfionibnlniaaTUse
import Derived.Test.YtemfionibnlniaaTArgs
import Derived.WalkKit
import Derived.Lib.Hide
import Derived.Deep.DeepCutAuto
import Derived.WalkLawsBesides
import Derived.WalkSpells
import Derived.BigQuiet
import Derived.BigRegion
import Derived.Deep.RegionHeld3
namespace Go.Proofs.Ytemfionibnlniaa
set_option linter.unusedVariables false
open Go.ChangeShapes Go.WideShapes Go.ChangeAt Go.RowKit Go.Joins
open Go.ChangeMaps (open_string shut_string)


set_option maxHeartbeats 8000000 in
theorem tlvNumbers_walk (n0 : Int) (n0l : 0 ≤ n0) (n0h : n0 < 18446744073709551616) (s : ByteArray) (hm : s.size ≤ maxLen) (n2 : Int) (n2l : 0 ≤ n2) (n2h : n2 < 18446744073709551616) (w : World) :
    Calls Try.prog 4 #[.int .u64 n0, .string s, .int .u64 n2] w fun e w' => e = .returned (.bool true) ∧ Wider w w' := by
  unfold maxLen at hm
  have G : Hid (Wider w w) := Wider.refl w
  obtain ⟨a, rfl⟩ : ∃ a : Nat, n0 = (a : Int) := ⟨n0.toNat, by omega⟩
  obtain ⟨b, rfl⟩ : ∃ b : Nat, n2 = (b : Int) := ⟨n2.toNat, by omega⟩
  have la : a < 18446744073709551616 := by omega
  have lb : b < 18446744073709551616 := by omega
  clear n0l n0h n2l n2h
  by_cases h0 : 20000 < s.size
  · have c0 : decide ((20000 : Int) < (s.size : Int)) = true := decide_eq_true (by omega)
    have c1 : decide (20000 < s.size) = true := decide_eq_true h0
    go_enter Try.func4, Try.ntmps4
    go_wp2_with (first
      | (go_at_call 13; ((with_reducible refine (awake6_c _).mono ?_); rintro e wa ⟨rfl, g⟩; replace G := htrans G g; clear g)))
    go_ret
    exact ⟨rfl, G.out⟩
  · have c0 : decide ((20000 : Int) < (s.size : Int)) = false := decide_eq_false (by omega)
    have c1 : decide (20000 < s.size) = false := decide_eq_false h0
    obtain ⟨⟨v, r⟩, hr⟩ : ∃ p, rnumN s.data.toList b = p := ⟨_, rfl⟩
    obtain ⟨T, hT⟩ : ∃ T, mkB (numB a) = T := ⟨_, rfl⟩
    have z1 := fun W => treadnum_a s b W (by omega) lb hr
    have z2 := fun W => rreadnum_c s b W (by omega) lb hr
    have z3 := fun W => tnum_a a W la hT
    have z4 := fun W => rnum_c a W la hT
    clear hr hT la lb
    go_enter Try.func4, Try.ntmps4
    go_wp2_with (first
      | (go_at_call 13; ((with_reducible refine (awake6_c _).mono ?_); rintro e wa ⟨rfl, g⟩; replace G := htrans G g; clear g))
      | (go_at_call 21; ((with_reducible refine (z1 _).mono ?_); rintro e w1 ⟨rfl, g⟩; replace G := htrans G g; clear g))
      | (go_at_call 22; ((with_reducible refine (z2 _).mono ?_); rintro e w1 ⟨rfl, g⟩; replace G := htrans G g; clear g))
      | (go_at_call 23; ((with_reducible refine (z3 _).mono ?_); rintro e w1 ⟨rfl, g⟩; replace G := htrans G g; clear g))
      | (go_at_call 24; ((with_reducible refine (z4 _).mono ?_); rintro e w1 ⟨rfl, g⟩; replace G := htrans G g; clear g)))
    go_ret
    exact ⟨rfl, G.out⟩

set_option maxRecDepth 100000 in
theorem tlvNumbers_lifted (os : Os) (started : os.Started) (H : Type) (enc : TypeId × Value → H) :
    ReturnsInHanded {} Try.checked os 4 .any (Rows.tlvNumbersSpec.pre6 enc Try.prog Try.f4 Rows.tlvNumbersRow.domain false) (Rows.tlvNumbersSpec.post enc Try.prog Try.f4 false true false false) := by
  refine returnsInHanded_of_change (C := Try.checked) own started (by kernel_rfl) Try.func4
    (ChangeSpec.witness6 (enc := enc) (C := Try.checked) false ⟨#[], #[.int .u64 0, .string ⟨#[]⟩, .int .u64 0], []⟩ 8 (by kernel_rfl) (by kernel_rfl) (by kernel_rfl) (by kernel_rfl)) ?_
  intro W base args ds gs before hval0 hW hcnd _
  have hval : ∀ (j : Nat) t v, Try.f4.params[j]? = some t → args[j]? = some v → Value.okWide Try.prog W .any base t v := hval0
  have hW' := hW
  obtain ⟨p, q, hA0, hV, rfl, hfz, hnd⟩ := hW
  have hA : DataW.TrodAll enc Try.prog W 0 (fun _ => true) true Try.f4.params.toList args.toList ds p := hA0
  rw [Try.params4] at hA hval
  obtain ⟨v0, vs0, d0, ds0, p0, q0, hargs, rfl, rfl, h0, r0⟩ := trodAll_cons hA
  obtain ⟨v1, vs1, d1, ds1, p1, q1, rfl, rfl, rfl, h1, r1⟩ := trodAll_cons r0
  obtain ⟨v2, vs2, d2, ds2, p2, q2, rfl, rfl, rfl, h2, r2⟩ := trodAll_cons r1
  obtain ⟨rfl, rfl, rfl⟩ := trodAll_nil r2
  obtain rfl : args = #[v0, v1, v2] := by cases args; simp_all
  obtain ⟨rfl, rfl⟩ := trodVars_none hV
  obtain ⟨n0, rfl, rfl, rfl, w0⟩ := open_int Try.underlying40 (hval 0 40 v0 rfl rfl) h0
  obtain ⟨s1, rfl, rfl, rfl, w1⟩ := open_string Try.underlying9 (hval 1 9 v1 rfl rfl) h1
  obtain ⟨n2, rfl, rfl, rfl, w2⟩ := open_int Try.underlying40 (hval 2 40 v2 rfl rfl) h2
  clear hA0 hval0
  simp only [List.append_nil] at hW'
  refine (tlvNumbers_walk n0 (bounds_u64 w0).1 (bounds_u64 w0).2 s1 w1 n2 (bounds_u64 w2).1 (bounds_u64 w2).2 W).mono fun e W' ⟨he, hg⟩ => ?_
  subst he
  exact ⟨_, rfl, post_of_none hW' (fun _ _ _ => (trodAll_cons_mk (shut_bool Try.underlying4 _) trodAll_mk0)) (fun sp => (trodAll_cons_mk (shut_int Try.underlying40 w0) (trodAll_cons_mk (shut_string Try.underlying9 w1) (trodAll_cons_mk (shut_int Try.underlying40 w2) trodAll_mk0)))) (fun _ => rfl)
    hg.1 (ok_one (by kernel_rfl) rfl (okWide_bool_mk Try.underlying4 _))⟩

theorem tlvNumbers_holds : Rows.TlvNumbersSaid :=
  OpenClaim.holds_of_wide 4 Try.f4 rfl rfl rfl rfl rfl rfl rfl ⟨rfl, rfl, rfl, rfl, rfl⟩ rfl rfl rfl rfl rfl (by kernel_rfl) Try.func4 (by kernel_rfl)
    (of_decide_eq_true (by kernel_rfl)) (by unfold Func.isWrapper; first | (rw [if_pos (by decide +kernel)]; kernel_rfl) | (rw [if_neg (by decide +kernel)]; exact ⟨rfl, rfl⟩))
    (fun os started H enc _ => tlvNumbers_lifted os started H enc)

#print axioms tlvNumbers_holds

end Go.Proofs.Ytemfionibnlniaa
