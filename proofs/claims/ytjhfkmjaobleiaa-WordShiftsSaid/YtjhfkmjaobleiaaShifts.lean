/- The law WordShifts: two shifts one way are one, Left by 1 is Add of the word and itself, Left and Right by one number cut bits off alone. No condition. -/
import Derived.Test.YtjhfkmjaobleiaaFrame
import Derived.Test.YtjhfkmjaobleiaaBits
namespace Go.Proofs.Ytjhfkmjaobleiaa
set_option linter.unusedVariables false
open Go.ChangeShapes Go.WideShapes Go.ChangeAt Go.RowKit Go.Joins
open Go.ChangeMaps (open_string shut_string)

theorem keep3 {V W w : World} {a0 a1 : Addr} {v0 v1 : Value} (g : Grown W w) (h : W.cell? a0 = some v0 ∧ W.cell? a1 = some v1 ∧ Hid (Grown V W)) :
    w.cell? a0 = some v0 ∧ w.cell? a1 = some v1 ∧ Hid (Grown V w) := ⟨gkeep g h.1, gkeep g h.2.1, h.2.2.out.trans3 g⟩

/-- The place that a number is brought to. -/
theorem rem_nat (n d : Int) (hd : 0 < d) (hd1 : d < 1000) : ∃ N : Nat, wrap64 ((IntKind.u64.wrap n).tmod d) = (N : Int) ∧ (N : Int) < d := by
  have w0 : 0 ≤ IntKind.u64.wrap n := wrap_u64_nonneg n
  have e : (IntKind.u64.wrap n).tmod d = IntKind.u64.wrap n % d := Int.tmod_eq_emod_of_nonneg w0
  have h0 : 0 ≤ IntKind.u64.wrap n % d := Int.emod_nonneg _ (by omega)
  have h1 := Int.emod_lt_of_pos (IntKind.u64.wrap n) hd
  refine ⟨(IntKind.u64.wrap n % d).toNat, ?_, by omega⟩
  rw [e]; unfold wrap64; omega

set_option maxHeartbeats 8000000 in
theorem wordShifts_walk (a0 b0 : Int) (x0 : BitVec 128) (hx0 : IsW a0 b0 x0) (n1 : Int) (n1l : -9223372036854775808 ≤ n1) (n1h : n1 ≤ 9223372036854775807) (n2 : Int) (n2l : -9223372036854775808 ≤ n2) (n2h : n2 ≤ 9223372036854775807) (w : World) :
    Calls Try.prog 9 #[.agg #[.int .u64 a0, .int .u64 b0], .int .i64 n1, .int .i64 n2] w fun e w' => e = .returned (.bool true) ∧ Grown w w' := by
  obtain ⟨N, hN, hN1⟩ := rem_nat n1 130 (by decide) (by decide)
  obtain ⟨M, hM, hM1⟩ := rem_nat n2 130 (by decide) (by decide)
  have eN : ((N : Int)).toNat = N := Int.toNat_natCast N
  have eM : ((M : Int)).toNat = M := Int.toNat_natCast M
  have eS : ((N : Int) + (M : Int)).toNat = N + M := by omega
  have eC : (128 - (N : Int)).toNat = 128 - N := by omega
  have eG : (-(M : Int)).toNat = 0 := by omega
  obtain ⟨p0, q0, h0⟩ := isW_ex (x0 <<< (N : Int).toNat)
  obtain ⟨p1, q1, h1⟩ := isW_ex (x0 <<< (N : Int).toNat <<< (M : Int).toNat)
  have h1' : IsW p1 q1 (x0 <<< ((N : Int) + (M : Int)).toNat) := by rw [eS, BitVec.shiftLeft_add, ← eN, ← eM]; exact h1
  obtain ⟨p2, q2, h2⟩ := isW_ex (x0 >>> (N : Int).toNat)
  obtain ⟨p3, q3, h3⟩ := isW_ex (x0 >>> (N : Int).toNat >>> (M : Int).toNat)
  have h3' : IsW p3 q3 (x0 >>> ((N : Int) + (M : Int)).toNat) := by rw [eS, BitVec.shiftRight_add, ← eN, ← eM]; exact h3
  obtain ⟨p4, q4, h4⟩ := isW_ex (x0 <<< (1 : Int).toNat)
  have h4' : IsW p4 q4 (x0 + x0) := by rw [← shl_one]; exact h4
  obtain ⟨p5, q5, h5⟩ := isW_ex (x0 <<< (N : Int).toNat >>> (N : Int).toNat)
  have h5' : IsW p5 q5 (x0 &&& mask (128 - (N : Int)).toNat) := by rw [eC, ← shl_shr, ← eN]; exact h5
  obtain ⟨p6, q6, h6⟩ := isW_ex (x0 >>> (N : Int).toNat <<< (N : Int).toNat)
  obtain ⟨p7, q7, h7⟩ := isW_ex (x0 &&& mask (N : Int).toNat)
  have h6' : IsW p6 q6 (x0 - (x0 &&& mask (N : Int).toNat)) := by rw [← shr_shl]; exact h6
  have h8 : IsW a0 b0 (x0 <<< (-(M : Int)).toNat) := by rw [eG]; simpa using hx0
  have h9 : IsW a0 b0 (x0 >>> (-(M : Int)).toNat) := by rw [eG]; simpa using hx0
  clear eN eM eS eC eG
  have lN : -9223372036854775808 ≤ (N : Int) := by omega
  have uN : (N : Int) ≤ 9223372036854775807 := by omega
  have lM : -9223372036854775808 ≤ (M : Int) := by omega
  have uM : (M : Int) ≤ 9223372036854775807 := by omega
  have lS : -9223372036854775808 ≤ (N : Int) + (M : Int) := by omega
  have uS : (N : Int) + (M : Int) ≤ 9223372036854775807 := by omega
  have lC : -9223372036854775808 ≤ 128 - (N : Int) := by omega
  have uC : 128 - (N : Int) ≤ 9223372036854775807 := by omega
  have lG : -9223372036854775808 ≤ -(M : Int) := by omega
  have uG : -(M : Int) ≤ 9223372036854775807 := by omega
  have iS : Hid (IntKind.i64.wrap ((N : Int) + (M : Int)) = (N : Int) + (M : Int)) := IntWalk.i64_in _ (by omega)
  have iC : Hid (IntKind.i64.wrap (128 - (N : Int)) = 128 - (N : Int)) := IntWalk.i64_in _ (by omega)
  have iG : Hid (IntKind.i64.wrap (-(M : Int)) = -(M : Int)) := IntWalk.i64_in _ (by omega)
  go_enter Try.func9, Try.ntmps9
  go_wp2
  have k0 : (w.alloc (.cells #[.int .u64 a0, .int .u64 b0] 24)).cell? ⟨w.heap.size, 0, none⟩ = some (.int .u64 a0) := by simp [go_sem]
  have k1 : (w.alloc (.cells #[.int .u64 a0, .int .u64 b0] 24)).cell? ⟨w.heap.size, 1, none⟩ = some (.int .u64 b0) := by simp [go_sem]
  have G : Hid (Grown w (w.alloc (.cells #[.int .u64 a0, .int .u64 b0] 24))) := (Grown.refl _).alloc _ _
  generalize (w.alloc (.cells #[.int .u64 a0, .int .u64 b0] 24)) = W at *
  try simp only [hN, hM]
  clear hN hM
  simp only [List.append]
  have jS := iS.out
  have jC := iC.out
  have jG := iG.out
  go_region_held3 (fun w' => w'.cell? ⟨w.heap.size, 0, none⟩ = some (.int .u64 a0) ∧ w'.cell? ⟨w.heap.size, 1, none⟩ = some (.int .u64 b0) ∧ Hid (Grown w w')) (first | assumption | exact ⟨k0, k1, G⟩ | exact keep3 (by assumption) (by assumption))
    (first
      | (go_at_call 17; ((with_reducible refine (awake_c _).mono ?_); rintro e w' ⟨rfl, g'⟩))
      | (go_at_call 15; ((with_reducible refine (left_c x0 (N : Int) lN uN hx0 h0 _).mono ?_); rintro e w' ⟨rfl, g'⟩))
      | (go_at_call 15; ((with_reducible refine (left_c (x0 <<< (N : Int).toNat) (M : Int) lM uM h0 h1 _).mono ?_); rintro e w' ⟨rfl, g'⟩))
      | (go_at_call 15; ((with_reducible refine (left_c x0 ((N : Int) + (M : Int)) lS uS hx0 h1' _).mono ?_); rintro e w' ⟨rfl, g'⟩))
      | (go_at_call 22; ((with_reducible refine (right_c x0 (N : Int) lN uN hx0 h2 _).mono ?_); rintro e w' ⟨rfl, g'⟩))
      | (go_at_call 22; ((with_reducible refine (right_c (x0 >>> (N : Int).toNat) (M : Int) lM uM h2 h3 _).mono ?_); rintro e w' ⟨rfl, g'⟩))
      | (go_at_call 22; ((with_reducible refine (right_c x0 ((N : Int) + (M : Int)) lS uS hx0 h3' _).mono ?_); rintro e w' ⟨rfl, g'⟩))
      | (go_at_call 15; ((with_reducible refine (left_c x0 1 (by decide) (by decide) hx0 h4 _).mono ?_); rintro e w' ⟨rfl, g'⟩))
      | (go_at_call 18; ((with_reducible refine (add_c x0 x0 hx0 hx0 h4' _).mono ?_); rintro e w' ⟨rfl, g'⟩))
      | (go_at_call 22; ((with_reducible refine (right_c (x0 <<< (N : Int).toNat) (N : Int) lN uN h0 h5 _).mono ?_); rintro e w' ⟨rfl, g'⟩))
      | (go_at_call 23; ((with_reducible refine (cut_c x0 (128 - (N : Int)) lC uC hx0 h5' _).mono ?_); rintro e w' ⟨rfl, g'⟩))
      | (go_at_call 15; ((with_reducible refine (left_c (x0 >>> (N : Int).toNat) (N : Int) lN uN h2 h6 _).mono ?_); rintro e w' ⟨rfl, g'⟩))
      | (go_at_call 23; ((with_reducible refine (cut_c x0 (N : Int) lN uN hx0 h7 _).mono ?_); rintro e w' ⟨rfl, g'⟩))
      | (go_at_call 19; ((with_reducible refine (sub_c x0 (x0 &&& mask (N : Int).toNat) hx0 h7 h6' _).mono ?_); rintro e w' ⟨rfl, g'⟩))
      | (go_at_call 15; ((with_reducible refine (left_c x0 (-(M : Int)) lG uG hx0 h8 _).mono ?_); rintro e w' ⟨rfl, g'⟩))
      | (go_at_call 22; ((with_reducible refine (right_c x0 (-(M : Int)) lG uG hx0 h9 _).mono ?_); rintro e w' ⟨rfl, g'⟩)))
  clear jS jC jG
  have HG : Hid (Grown w w') := by
    have h := ‹_ ∧ _ ∧ Hid (Grown w w')›
    exact h.2.2
  go_wp2
  go_ret
  exact ⟨rfl, HG.out⟩

set_option maxRecDepth 100000 in
theorem wordShifts_lifted (os : Os) (started : os.Started) (H : Type) (enc : TypeId × Value → H) :
    ReturnsInHanded {} Try.checked os 9 .any (Rows.wordShiftsSpec.pre6 enc Try.prog Try.f9 Rows.wordShiftsRow.domain false) (Rows.wordShiftsSpec.post enc Try.prog Try.f9 false true false false) := by
  refine returnsInHanded_of_change (C := Try.checked) own started (by kernel_rfl) Try.func9
    (ChangeSpec.witness6 (enc := enc) (C := Try.checked) false ⟨#[], #[.agg #[.int .u64 0, .int .u64 0], .int .i64 0, .int .i64 0], []⟩ 8 (by kernel_rfl) (by kernel_rfl) (by kernel_rfl) (by kernel_rfl)) ?_
  intro W base args ds gs before hval0 hW hcnd _
  have hval : ∀ (j : Nat) t v, Try.f9.params[j]? = some t → args[j]? = some v → Value.okWide Try.prog W .any base t v := hval0
  have hW' := hW
  obtain ⟨p, q, hA0, hV, rfl, hfz, hnd⟩ := hW
  have hA : DataW.TrodAll enc Try.prog W 0 (fun _ => true) true Try.f9.params.toList args.toList ds p := hA0
  rw [Try.params9] at hA hval
  obtain ⟨v0, vs0, d0, ds0, p0, q0, hargs, rfl, rfl, h0, r0⟩ := trodAll_cons hA
  obtain ⟨v1, vs1, d1, ds1, p1, q1, rfl, rfl, rfl, h1, r1⟩ := trodAll_cons r0
  obtain ⟨v2, vs2, d2, ds2, p2, q2, rfl, rfl, rfl, h2, r2⟩ := trodAll_cons r1
  obtain ⟨rfl, rfl, rfl⟩ := trodAll_nil r2
  obtain rfl : args = #[v0, v1, v2] := by cases args; simp_all
  obtain ⟨rfl, rfl⟩ := trodVars_none hV
  obtain ⟨a0, b0, rfl, rfl, rfl, wa0, wb0⟩ := open_word (hval 0 24 v0 rfl rfl) h0
  obtain ⟨x0, hx0⟩ := word_in wa0 wb0
  obtain ⟨n1, rfl, rfl, rfl, w1⟩ := open_int Try.underlying3 (hval 1 3 v1 rfl rfl) h1
  obtain ⟨n2, rfl, rfl, rfl, w2⟩ := open_int Try.underlying3 (hval 2 3 v2 rfl rfl) h2
  clear hA0 hval0
  simp only [List.append_nil] at hW'
  refine (wordShifts_walk a0 b0 x0 hx0 n1 (bounds_i64 w1).1 (bounds_i64 w1).2 n2 (bounds_i64 w2).1 (bounds_i64 w2).2 W).mono fun e W' ⟨he, hg⟩ => ?_
  subst he
  exact ⟨_, rfl, post_of_same (pa := []) (pv := []) hW' (fun _ _ _ => (trodAll_cons_mk (shut_bool Try.underlying4 _) trodAll_mk0)) (fun sp _ => (trodAll_cons_mk (shut_word wa0 wb0) (trodAll_cons_mk (shut_int Try.underlying3 w1) (trodAll_cons_mk (shut_int Try.underlying3 w2) trodAll_mk0)))) (fun _ _ => rfl) rfl
    (hg.frame _) hg.2.1 (ok_one (by kernel_rfl) rfl (okWide_bool_mk Try.underlying4 _))⟩

theorem wordShifts_holds : Rows.WordShiftsSaid :=
  OpenClaim.holds_of_wide 9 Try.f9 rfl rfl rfl rfl rfl rfl rfl ⟨rfl, rfl, rfl, rfl, rfl⟩ rfl rfl rfl rfl rfl (by kernel_rfl) Try.func9 (by kernel_rfl)
    (of_decide_eq_true (by kernel_rfl)) (by unfold Func.isWrapper; first | (rw [if_pos (by decide +kernel)]; kernel_rfl) | (rw [if_neg (by decide +kernel)]; exact ⟨rfl, rfl⟩))
    (fun os started H enc _ => wordShifts_lifted os started H enc)

#print axioms wordShifts_holds
end Go.Proofs.Ytjhfkmjaobleiaa
