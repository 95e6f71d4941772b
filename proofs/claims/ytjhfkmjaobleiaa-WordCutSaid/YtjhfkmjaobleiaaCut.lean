/- The law WordCut: what is cut is not above its Mask, and what comes of words that were cut ahead is that of the words. No condition. -/
import Derived.Test.YtjhfkmjaobleiaaCutA
import Derived.Test.YtjhfkmjaobleiaaCutB
import Derived.Test.YtjhfkmjaobleiaaCutC
namespace Go.Proofs.Ytjhfkmjaobleiaa
set_option linter.unusedVariables false
open Go.ChangeShapes Go.WideShapes Go.ChangeAt Go.RowKit Go.Joins
open Go.ChangeMaps (open_string shut_string)

theorem wordCut_walk (a0 b0 : Int) (x0 : BitVec 128) (hx0 : IsW a0 b0 x0) (a1 b1 : Int) (x1 : BitVec 128) (hx1 : IsW a1 b1 x1) (n1 : Int) (n1l : -9223372036854775808 ≤ n1) (n1h : n1 ≤ 9223372036854775807) (n2 : Int) (n2l : -9223372036854775808 ≤ n2) (n2h : n2 ≤ 9223372036854775807) (w : World) :
    Calls Try.prog 12 #[.agg #[.int .u64 a0, .int .u64 b0], .agg #[.int .u64 a1, .int .u64 b1], .int .i64 n1, .int .i64 n2] w fun e w' => e = .returned (.bool true) ∧ Grown w w' := by
  obtain ⟨N, hN, hN1⟩ := rem_nat n1 131 (by decide) (by decide)
  obtain ⟨M, hM, hM1⟩ := rem_nat n2 131 (by decide) (by decide)
  have eN : ((N : Int)).toNat = N := Int.toNat_natCast N
  obtain ⟨xh, xl, hx⟩ := isW_ex (x0 &&& mask (N : Int).toNat)
  obtain ⟨z2, hz2⟩ : ∃ z : Int, (sizeW x0 : Int) = z := ⟨_, rfl⟩
  have hq : (decide (z2 ≤ (N : Int)) == (xh == a0 && xl == b0)) = true := by
    have k1 : z2 ≤ (N : Int) ↔ x0.toNat < 2 ^ N := by
      rw [← hz2, ← sizeW_iff]; omega
    have k2 : (xh = a0 ∧ xl = b0) ↔ x0.toNat < 2 ^ N := by
      constructor
      · rintro ⟨q1, q2⟩
        have e := hx.inj hx0 q1 q2
        have e2 := congrArg BitVec.toNat e
        rw [cut_toNat, eN] at e2
        rw [← e2]; exact Nat.mod_lt _ (Nat.two_pow_pos _)
      · intro q
        have e : x0 &&& mask (N : Int).toNat = x0 := by
          apply BitVec.eq_of_toNat_eq; rw [cut_toNat, eN]; exact Nat.mod_eq_of_lt q
        rw [e] at hx
        exact ⟨hx.h.trans hx0.h.symm, hx.l.trans hx0.l.symm⟩
    rw [beq_iff_eq, Bool.eq_iff_iff, decide_eq_true_eq, Bool.and_eq_true, beq_iff_eq, beq_iff_eq, k1, k2]
  have h3 : (decide (z2 ≤ (N : Int)) = true ∧ (xh == a0) = true ∧ (xl == b0) = true) ∨ (decide (z2 ≤ (N : Int)) = false ∧ (xh == a0) = false) ∨ (decide (z2 ≤ (N : Int)) = false ∧ (xh == a0) = true ∧ (xl == b0) = false) := by
    revert hq
    cases decide (z2 ≤ (N : Int)) <;> cases (xh == a0) <;> cases (xl == b0) <;> simp
  rcases h3 with q | q | q
  · exact wordCut_A a0 b0 x0 hx0 a1 b1 x1 hx1 n1 n1l n1h n2 n2l n2h N hN hN1 M hM hM1 xh xl hx z2 hz2 q w
  · exact wordCut_B a0 b0 x0 hx0 a1 b1 x1 hx1 n1 n1l n1h n2 n2l n2h N hN hN1 M hM hM1 xh xl hx z2 hz2 q w
  · exact wordCut_C a0 b0 x0 hx0 a1 b1 x1 hx1 n1 n1l n1h n2 n2l n2h N hN hN1 M hM hM1 xh xl hx z2 hz2 q w

set_option maxRecDepth 100000 in
theorem wordCut_lifted (os : Os) (started : os.Started) (H : Type) (enc : TypeId × Value → H) :
    ReturnsInHanded {} Try.checked os 12 .any (Rows.wordCutSpec.pre6 enc Try.prog Try.f12 Rows.wordCutRow.domain false) (Rows.wordCutSpec.post enc Try.prog Try.f12 false true false false) := by
  refine returnsInHanded_of_change (C := Try.checked) own started (by kernel_rfl) Try.func12
    (ChangeSpec.witness6 (enc := enc) (C := Try.checked) false ⟨#[], #[.agg #[.int .u64 0, .int .u64 0], .agg #[.int .u64 0, .int .u64 0], .int .i64 0, .int .i64 0], []⟩ 8 (by kernel_rfl) (by kernel_rfl) (by kernel_rfl) (by kernel_rfl)) ?_
  intro W base args ds gs before hval0 hW hcnd _
  have hval : ∀ (j : Nat) t v, Try.f12.params[j]? = some t → args[j]? = some v → Value.okWide Try.prog W .any base t v := hval0
  have hW' := hW
  obtain ⟨p, q, hA0, hV, rfl, hfz, hnd⟩ := hW
  have hA : DataW.TrodAll enc Try.prog W 0 (fun _ => true) true Try.f12.params.toList args.toList ds p := hA0
  rw [Try.params12] at hA hval
  obtain ⟨v0, vs0, d0, ds0, p0, q0, hargs, rfl, rfl, h0, r0⟩ := trodAll_cons hA
  obtain ⟨v1, vs1, d1, ds1, p1, q1, rfl, rfl, rfl, h1, r1⟩ := trodAll_cons r0
  obtain ⟨v2, vs2, d2, ds2, p2, q2, rfl, rfl, rfl, h2, r2⟩ := trodAll_cons r1
  obtain ⟨v3, vs3, d3, ds3, p3, q3, rfl, rfl, rfl, h3, r3⟩ := trodAll_cons r2
  obtain ⟨rfl, rfl, rfl⟩ := trodAll_nil r3
  obtain rfl : args = #[v0, v1, v2, v3] := by cases args; simp_all
  obtain ⟨rfl, rfl⟩ := trodVars_none hV
  obtain ⟨a0, b0, rfl, rfl, rfl, wa0, wb0⟩ := open_word (hval 0 24 v0 rfl rfl) h0
  obtain ⟨x0, hx0⟩ := word_in wa0 wb0
  obtain ⟨a1, b1, rfl, rfl, rfl, wa1, wb1⟩ := open_word (hval 1 24 v1 rfl rfl) h1
  obtain ⟨x1, hx1⟩ := word_in wa1 wb1
  obtain ⟨n2, rfl, rfl, rfl, w2⟩ := open_int Try.underlying3 (hval 2 3 v2 rfl rfl) h2
  obtain ⟨n3, rfl, rfl, rfl, w3⟩ := open_int Try.underlying3 (hval 3 3 v3 rfl rfl) h3
  clear hA0 hval0
  simp only [List.append_nil] at hW'
  refine (wordCut_walk a0 b0 x0 hx0 a1 b1 x1 hx1 n2 (bounds_i64 w2).1 (bounds_i64 w2).2 n3 (bounds_i64 w3).1 (bounds_i64 w3).2 W).mono fun e W' ⟨he, hg⟩ => ?_
  subst he
  exact ⟨_, rfl, post_of_same (pa := []) (pv := []) hW' (fun _ _ _ => (trodAll_cons_mk (shut_bool Try.underlying4 _) trodAll_mk0)) (fun sp _ => (trodAll_cons_mk (shut_word wa0 wb0) (trodAll_cons_mk (shut_word wa1 wb1) (trodAll_cons_mk (shut_int Try.underlying3 w2) (trodAll_cons_mk (shut_int Try.underlying3 w3) trodAll_mk0))))) (fun _ _ => rfl) rfl
    (hg.frame _) hg.2.1 (ok_one (by kernel_rfl) rfl (okWide_bool_mk Try.underlying4 _))⟩

theorem wordCut_holds : Rows.WordCutSaid :=
  OpenClaim.holds_of_wide 12 Try.f12 rfl rfl rfl rfl rfl rfl rfl ⟨rfl, rfl, rfl, rfl, rfl⟩ rfl rfl rfl rfl rfl (by kernel_rfl) Try.func12 (by kernel_rfl)
    (of_decide_eq_true (by kernel_rfl)) (by unfold Func.isWrapper; first | (rw [if_pos (by decide +kernel)]; kernel_rfl) | (rw [if_neg (by decide +kernel)]; exact ⟨rfl, rfl⟩))
    (fun os started H enc _ => wordCut_lifted os started H enc)

#print axioms wordCut_holds
end Go.Proofs.Ytjhfkmjaobleiaa
