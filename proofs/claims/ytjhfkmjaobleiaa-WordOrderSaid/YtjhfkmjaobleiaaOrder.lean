/- The law WordOrder: words stand to each other as their texts do, and what follows from that. No condition. -/
import Derived.Test.YtjhfkmjaobleiaaOrderLtA
import Derived.Test.YtjhfkmjaobleiaaOrderLtB
import Derived.Test.YtjhfkmjaobleiaaOrderEq
import Derived.Test.YtjhfkmjaobleiaaOrderGtA
import Derived.Test.YtjhfkmjaobleiaaOrderGtB
namespace Go.Proofs.Ytjhfkmjaobleiaa
set_option linter.unusedVariables false
open Go.ChangeShapes Go.WideShapes Go.ChangeAt Go.RowKit Go.Joins
open Go.ChangeMaps (open_string shut_string)



theorem wordOrder_walk (a0 b0 : Int) (x0 : BitVec 128) (hx0 : IsW a0 b0 x0) (a1 b1 : Int) (x1 : BitVec 128) (hx1 : IsW a1 b1 x1) (w : World) :
    Calls Try.prog 10 #[.agg #[.int .u64 a0, .int .u64 b0], .agg #[.int .u64 a1, .int .u64 b1]] w fun e w' => e = .returned (.bool true) ∧ Grown w w' := by
  rcases Nat.lt_or_ge x0.toNat x1.toNat with h | h
  · by_cases q : a0 = a1
    · exact wordOrder_ltB a0 b0 x0 hx0 a1 b1 x1 hx1 ⟨h, q⟩ w
    · exact wordOrder_ltA a0 b0 x0 hx0 a1 b1 x1 hx1 ⟨h, q⟩ w
  · rcases Nat.lt_or_ge x1.toNat x0.toNat with h2 | h2
    · by_cases q : a0 = a1
      · exact wordOrder_gtB a0 b0 x0 hx0 a1 b1 x1 hx1 ⟨h2, q⟩ w
      · exact wordOrder_gtA a0 b0 x0 hx0 a1 b1 x1 hx1 ⟨h2, q⟩ w
    · exact wordOrder_eq a0 b0 x0 hx0 a1 b1 x1 hx1 (BitVec.eq_of_toNat_eq (by omega)) w

set_option maxRecDepth 100000 in
theorem wordOrder_lifted (os : Os) (started : os.Started) (H : Type) (enc : TypeId × Value → H) :
    ReturnsInHanded {} Try.checked os 10 .any (Rows.wordOrderSpec.pre6 enc Try.prog Try.f10 Rows.wordOrderRow.domain false) (Rows.wordOrderSpec.post enc Try.prog Try.f10 false true false false) := by
  refine returnsInHanded_of_change (C := Try.checked) own started (by kernel_rfl) Try.func10
    (ChangeSpec.witness6 (enc := enc) (C := Try.checked) false ⟨#[], #[.agg #[.int .u64 0, .int .u64 0], .agg #[.int .u64 0, .int .u64 0]], []⟩ 8 (by kernel_rfl) (by kernel_rfl) (by kernel_rfl) (by kernel_rfl)) ?_
  intro W base args ds gs before hval0 hW hcnd _
  have hval : ∀ (j : Nat) t v, Try.f10.params[j]? = some t → args[j]? = some v → Value.okWide Try.prog W .any base t v := hval0
  have hW' := hW
  obtain ⟨p, q, hA0, hV, rfl, hfz, hnd⟩ := hW
  have hA : DataW.TrodAll enc Try.prog W 0 (fun _ => true) true Try.f10.params.toList args.toList ds p := hA0
  rw [Try.params10] at hA hval
  obtain ⟨v0, vs0, d0, ds0, p0, q0, hargs, rfl, rfl, h0, r0⟩ := trodAll_cons hA
  obtain ⟨v1, vs1, d1, ds1, p1, q1, rfl, rfl, rfl, h1, r1⟩ := trodAll_cons r0
  obtain ⟨rfl, rfl, rfl⟩ := trodAll_nil r1
  obtain rfl : args = #[v0, v1] := by cases args; simp_all
  obtain ⟨rfl, rfl⟩ := trodVars_none hV
  obtain ⟨a0, b0, rfl, rfl, rfl, wa0, wb0⟩ := open_word (hval 0 24 v0 rfl rfl) h0
  obtain ⟨x0, hx0⟩ := word_in wa0 wb0
  obtain ⟨a1, b1, rfl, rfl, rfl, wa1, wb1⟩ := open_word (hval 1 24 v1 rfl rfl) h1
  obtain ⟨x1, hx1⟩ := word_in wa1 wb1
  clear hA0 hval0
  simp only [List.append_nil] at hW'
  refine (wordOrder_walk a0 b0 x0 hx0 a1 b1 x1 hx1 W).mono fun e W' ⟨he, hg⟩ => ?_
  subst he
  exact ⟨_, rfl, post_of_same (pa := []) (pv := []) hW' (fun _ _ _ => (trodAll_cons_mk (shut_bool Try.underlying4 _) trodAll_mk0)) (fun sp _ => (trodAll_cons_mk (shut_word wa0 wb0) (trodAll_cons_mk (shut_word wa1 wb1) trodAll_mk0))) (fun _ _ => rfl) rfl
    (hg.frame _) hg.2.1 (ok_one (by kernel_rfl) rfl (okWide_bool_mk Try.underlying4 _))⟩

theorem wordOrder_holds : Rows.WordOrderSaid :=
  OpenClaim.holds_of_wide 10 Try.f10 rfl rfl rfl rfl rfl rfl rfl ⟨rfl, rfl, rfl, rfl, rfl⟩ rfl rfl rfl rfl rfl (by kernel_rfl) Try.func10 (by kernel_rfl)
    (of_decide_eq_true (by kernel_rfl)) (by unfold Func.isWrapper; first | (rw [if_pos (by decide +kernel)]; kernel_rfl) | (rw [if_neg (by decide +kernel)]; exact ⟨rfl, rfl⟩))
    (fun os started H enc _ => wordOrder_lifted os started H enc)

#print axioms wordOrder_holds

end Go.Proofs.Ytjhfkmjaobleiaa
