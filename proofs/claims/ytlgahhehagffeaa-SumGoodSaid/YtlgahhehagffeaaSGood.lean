/- The law SumGood: a text of an even length, with its checksum at an even place, is good; with one word of it another one, but for 0 and 65535, it is not. No condition. -/
import Derived.Test.YtlgahhehagffeaaSAwake
import Derived.Test.YtlgahhehagffeaaSOpen
import Derived.Test.YtlgahhehagffeaaSGlue
import Derived.Lib.Hide
import Derived.BigQuiet
import Derived.BigRegion
import Derived.Deep.RegionHeld3
import Derived.Deep.DeepCutAuto
import Derived.WalkLawsBesides
import Derived.WalkSpells
namespace Go.Proofs.Ytlgahhehagffeaa
set_option linter.unusedVariables false
open Go.ChangeShapes Go.WideShapes Go.ChangeAt Go.RowKit Go.Joins
open Go.ChangeMaps (open_string shut_string)

theorem gd_keepW {V W w : World} (g : Wider W w) (h : Hid (Wider V W)) : Hid (Wider V w) := htrans h g
theorem gd_keep {V W w : World} (g : Grown W w) (h : Hid (Wider V W)) : Hid (Wider V w) := hgrown h g

set_option maxRecDepth 100000 in
set_option maxHeartbeats 16000000 in
theorem sumGood_ok (s : ByteArray) (n1 : Int) (n1l : -9223372036854775808 ≤ n1) (n1h : n1 ≤ 9223372036854775807) (n2 : Int) (n2l : -9223372036854775808 ≤ n2) (n2h : n2 ≤ 9223372036854775807) (c : Nat) (hc : c < 65536) (hs : s.size < 39999) (w : World) :
    Calls Try.prog 8 #[.string s, .int .i64 n1, .int .i64 n2, .int .u16 (c : Int)] w fun e w' => e = .returned (.bool true) ∧ Wider w w' := by
  have G : Hid (Wider w w) := Wider.refl w
  have zl := long_1 s (by omega) (r := false) (decide_eq_false (by omega))
  obtain ⟨E, hE⟩ : ∃ E, evenS s = E := ⟨_, rfl⟩
  have ze := even_c s (by omega) hE
  have hEs : E.size ≤ 39999 := by rw [← hE, evenS_size]; omega
  have hE2 : E.size % 2 = 0 := by rw [← hE, evenS_size]; omega
  clear hE hs
  obtain ⟨P, hP, hP2, hPl⟩ := place_ex E.size n1 (by omega)
  have zp := splace_c E n1 (by omega) n1l n1h hP hPl
  clear hP
  obtain ⟨C, hC⟩ : ∃ C, 65535 - sumS E.data.toList = C := ⟨_, rfl⟩
  have lC : C < 65536 := by omega
  have zo := sof_1 E (by omega) hC
  have zod := sof_1d E (by omega) hC
  obtain ⟨X, hX⟩ : ∃ X, twoS C = X := ⟨_, rfl⟩
  have hXs : X.size = 2 := by rw [← hX]; exact twoS_size C
  have zt := two_c C lC hX
  obtain ⟨T, hT⟩ : ∃ T, (E.extract 0 P ++ X) ++ E.extract P E.size = T := ⟨_, rfl⟩
  have hTs : T.size = E.size + 2 := by rw [← hT, glue_size E X P P hPl hPl]; omega
  have hT2 : 2 ≤ T.size := by omega
  have hT3 : T.size ≤ 40001 := by omega
  clear hTs
  have hg : sumS T.data.toList = 65535 := by rw [← hT]; exact good_text E X P hP2 hPl hC hX
  have zg := sgood_c T (by omega) (b := true) (decide_eq_true hg)
  obtain ⟨M, hM, hM2, hM1⟩ := word_ex T.size n2 (by omega) (by omega)
  have HM := Lib.hid hM
  clear hM
  have la : T[M].toNat < 256 := UInt8.toNat_lt _
  have lb : T[M + 1].toNat < 256 := UInt8.toNat_lt _
  have hwo := word_or _ _ la lb
  have hwo2 : bits .or .u16 ((T[M].toNat : Int) * 256) (T[M + 1].toNat : Int) = ((T[M].toNat * 256 + T[M + 1].toNat : Nat) : Int) := by
    rw [← hwo, IntKind.wrap_u16]; congr 1; omega
  obtain ⟨Y, hY⟩ : ∃ Y, twoS c = Y := ⟨_, rfl⟩
  have hYs : Y.size = 2 := by rw [← hY]; exact twoS_size c
  have zy := two_c c hc hY
  have hbad := bad_text T Y M c hM2 hM1 hc hY hg
  obtain ⟨W0, hW0⟩ : ∃ W0, T[M].toNat * 256 + T[M + 1].toNat = W0 := ⟨_, rfl⟩
  have lW0 : W0 < 65536 := by omega
  rw [hW0] at hwo hwo2 hbad
  obtain ⟨U, hU⟩ : ∃ U, (T.extract 0 M ++ Y) ++ T.extract (M + 2) T.size = U := ⟨_, rfl⟩
  have hUs : U.size = T.size := by rw [← hU, glue_size T Y M (M + 2) (by omega) (by omega)]; omega
  rw [hU] at hbad
  have i0 : (0 : Int) ≤ (M : Int) := by omega
  have i1 : (M : Int) < (T.size : Int) := by omega
  have i2 : (M : Int) ≤ (T.size : Int) := by omega
  have j0 : (0 : Int) ≤ (M : Int) + 1 := by omega
  have j1 : (M : Int) + 1 < (T.size : Int) := by omega
  have k0 : (0 : Int) ≤ (M : Int) + 2 := by omega
  have k1 : (M : Int) + 2 ≤ (T.size : Int) := by omega
  have p0 : (0 : Int) ≤ (P : Int) := by omega
  have p1 : (P : Int) ≤ (E.size : Int) := by omega
  have f1 : IntKind.i64.wrap ((M : Int) + 1) = (M : Int) + 1 := IntWalk.i64_in _ (by omega)
  have f2 : IntKind.i64.wrap ((M : Int) + 2) = (M : Int) + 2 := IntWalk.i64_in _ (by omega)
  have ha1 : ∀ W : World, (Op.stringOp .add (E.extract 0 P) X).run Try.prog W = .ok (.string (E.extract 0 P ++ X)) W := fun W => run_string_add_sum W _ _ (by simp; omega)
  have ha2 : ∀ W : World, (Op.stringOp .add (E.extract 0 P ++ X) (E.extract P E.size)).run Try.prog W = .ok (.string T) W := fun W => by rw [run_string_add_sum W _ _ (by simp; omega), hT]
  have hb1 : ∀ W : World, (Op.stringOp .add (T.extract 0 M) Y).run Try.prog W = .ok (.string (T.extract 0 M ++ Y)) W := fun W => run_string_add_sum W _ _ (by simp; omega)
  have hb2 : ∀ W : World, (Op.stringOp .add (T.extract 0 M ++ Y) (T.extract (M + 2) T.size)).run Try.prog W = .ok (.string U) W := fun W => by rw [run_string_add_sum W _ _ (by simp; omega), hU]
  have hb3 : ∀ W : World, (Op.stringOp .add (T.extract 0 M ++ Y) (T.extract ((M : Int) + 2).toNat T.size)).run Try.prog W = .ok (.string U) W := fun W => by rw [show ((M : Int) + 2).toNat = M + 2 by omega]; exact hb2 W
  have zu : W0 % 65535 ≠ c % 65535 → ∀ W : World, Calls Try.prog 16 #[.string U] W fun e w' => e = .returned (.bool false) ∧ Wider W w' := fun h => sgood_c U (by omega) (b := false) (decide_eq_false (hbad h))
  clear hC hX hT hg hW0 hU hY hbad
  go_enter Try.func8, Try.ntmps8
  go_upto_region 5 with (first
    | (go_at_call 12; ((with_reducible refine (awake3_c _).mono ?_); rintro e wa ⟨rfl, g⟩; replace G := htrans G g; clear g))
    | (go_at_call 18; ((with_reducible refine (zl _).mono ?_); rintro e w1 ⟨rfl, g⟩; replace G := htrans G g; clear g))
    | (go_at_call 25; ((with_reducible refine (ze _).mono ?_); rintro e w9 ⟨rfl, rfl⟩))
    | (go_at_call 26; ((with_reducible refine (zp _).mono ?_); rintro e w9 ⟨rfl, rfl⟩)))
  go_region_held3 (fun w' => Hid (Wider w w')) (first | assumption | exact gd_keep (by assumption) (by assumption) | exact gd_keepW (by assumption) (by assumption) | exact hdrewD (by assumption) | exact hdrewA (by assumption) | exact halloc2 (by assumption) _)
    (first
      | (go_at_call 14; ((with_reducible refine (zo _).mono ?_); rintro e w' ⟨rfl, g'⟩))
      | (go_at_call 14; ((with_reducible refine (zod _).mono ?_); rintro e w' ⟨rfl, g'⟩))
      | (go_at_call 27; ((with_reducible refine (zt _).mono ?_); rintro e w' ⟨rfl, g'⟩)))
  have HG : Hid (Wider w w') := by assumption
  clear G ha1 ha2
  have G := HG
  clear HG
  generalize w' = V2 at *
  go_upto_region 9 with (first
    | (go_at_call 16; ((with_reducible refine (zg _).mono ?_); rintro e wg ⟨rfl, g⟩; replace G := htrans G g; clear g)))
  have hM := HM.out
  have hM3 : wrap64 (M : Int) = (M : Int) := by unfold wrap64; omega
  try simp only [hM, hM3]
  clear hM hM3
  go_quiet (fail)
  replace G : Hid (Wider w (wg.drewN nq)) := G.out.drewN nq
  generalize wg.drewN nq = V3 at *
  by_cases d : W0 % 65535 = c % 65535
  · have e1 : ((W0 : Int) % 65535 == (c : Int) % 65535) = true := by simp; omega
    clear zu d hb1 hb2 hb3
    go_wp2
    go_ret
    exact ⟨rfl, G.out⟩
  · have e1 : ((W0 : Int) % 65535 == (c : Int) % 65535) = false := by simp; omega
    have zv := zu d
    clear zu d
    go_upto_region 12 with fail
    go_region_held3 (fun w' => Hid (Wider w w')) (first | assumption | exact gd_keep (by assumption) (by assumption) | exact gd_keepW (by assumption) (by assumption) | exact hdrewD (by assumption) | exact hdrewA (by assumption) | exact halloc2 (by assumption) _)
      (first
        | (go_at_call 27; ((with_reducible refine (zy _).mono ?_); rintro e w' ⟨rfl, g'⟩))
        | (go_at_call 16; ((with_reducible refine (zv _).mono ?_); rintro e w' ⟨rfl, g'⟩)))
    have HG : Hid (Wider w w') := by assumption
    go_wp2
    go_ret
    exact ⟨rfl, HG.out⟩

set_option maxHeartbeats 4000000 in
theorem sumGood_walk (s : ByteArray) (hm : s.size ≤ maxLen) (n1 : Int) (n1l : -9223372036854775808 ≤ n1) (n1h : n1 ≤ 9223372036854775807) (n2 : Int) (n2l : -9223372036854775808 ≤ n2) (n2h : n2 ≤ 9223372036854775807) (n3 : Int) (n3l : 0 ≤ n3) (n3h : n3 < 65536) (w : World) :
    Calls Try.prog 8 #[.string s, .int .i64 n1, .int .i64 n2, .int .u16 n3] w fun e w' => e = .returned (.bool true) ∧ Wider w w' := by
  unfold maxLen at hm
  have G : Hid (Wider w w) := Wider.refl w
  by_cases h0 : s.size < 39999
  · obtain ⟨c, rfl⟩ := Int.eq_ofNat_of_zero_le n3l
    exact sumGood_ok s n1 n1l n1h n2 n2l n2h c (by omega) h0 w
  · have zl := long_1 s (by omega) (r := true) (decide_eq_true (by omega))
    go_enter Try.func8, Try.ntmps8
    go_wp2_with (first
      | (go_at_call 12; ((with_reducible refine (awake3_c _).mono ?_); rintro e wa ⟨rfl, g⟩; replace G := htrans G g; clear g))
      | (go_at_call 18; ((with_reducible refine (zl _).mono ?_); rintro e w1 ⟨rfl, g⟩; replace G := htrans G g; clear g)))
    go_ret
    exact ⟨rfl, G.out⟩

set_option maxRecDepth 100000 in
theorem sumGood_lifted (os : Os) (started : os.Started) (H : Type) (enc : TypeId × Value → H) :
    ReturnsInHanded {} Try.checked os 8 .any (Rows.sumGoodSpec.pre6 enc Try.prog Try.f8 Rows.sumGoodRow.domain false) (Rows.sumGoodSpec.post enc Try.prog Try.f8 false true false false) := by
  refine returnsInHanded_of_change (C := Try.checked) own started (by kernel_rfl) Try.func8
    (ChangeSpec.witness6 (enc := enc) (C := Try.checked) false ⟨#[], #[.string ⟨#[]⟩, .int .i64 0, .int .i64 0, .int .u16 0], []⟩ 8 (by kernel_rfl) (by kernel_rfl) (by kernel_rfl) (by kernel_rfl)) ?_
  intro W base args ds gs before hval0 hW hcnd _
  have hval : ∀ (j : Nat) t v, Try.f8.params[j]? = some t → args[j]? = some v → Value.okWide Try.prog W .any base t v := hval0
  have hW' := hW
  obtain ⟨p, q, hA0, hV, rfl, hfz, hnd⟩ := hW
  have hA : DataW.TrodAll enc Try.prog W 0 (fun _ => true) true Try.f8.params.toList args.toList ds p := hA0
  rw [Try.params8] at hA hval
  obtain ⟨v0, vs0, d0, ds0, p0, q0, hargs, rfl, rfl, h0, r0⟩ := trodAll_cons hA
  obtain ⟨v1, vs1, d1, ds1, p1, q1, rfl, rfl, rfl, h1, r1⟩ := trodAll_cons r0
  obtain ⟨v2, vs2, d2, ds2, p2, q2, rfl, rfl, rfl, h2, r2⟩ := trodAll_cons r1
  obtain ⟨v3, vs3, d3, ds3, p3, q3, rfl, rfl, rfl, h3, r3⟩ := trodAll_cons r2
  obtain ⟨rfl, rfl, rfl⟩ := trodAll_nil r3
  obtain rfl : args = #[v0, v1, v2, v3] := by cases args; simp_all
  obtain ⟨rfl, rfl⟩ := trodVars_none hV
  obtain ⟨s0, rfl, rfl, rfl, w0⟩ := open_string Try.underlying9 (hval 0 9 v0 rfl rfl) h0
  obtain ⟨n1, rfl, rfl, rfl, w1⟩ := open_int Try.underlying3 (hval 1 3 v1 rfl rfl) h1
  obtain ⟨n2, rfl, rfl, rfl, w2⟩ := open_int Try.underlying3 (hval 2 3 v2 rfl rfl) h2
  obtain ⟨n3, rfl, rfl, rfl, w3⟩ := open_int Try.underlying23 (hval 3 23 v3 rfl rfl) h3
  clear hA0 hval0
  simp only [List.append_nil] at hW'
  refine (sumGood_walk s0 w0 n1 (bounds_i64 w1).1 (bounds_i64 w1).2 n2 (bounds_i64 w2).1 (bounds_i64 w2).2 n3 (bounds_u16 w3).1 (bounds_u16 w3).2 W).mono fun e W' ⟨he, hg⟩ => ?_
  subst he
  exact ⟨_, rfl, post_of_none hW' (fun _ _ _ => (trodAll_cons_mk (shut_bool Try.underlying4 _) trodAll_mk0)) (fun sp => (trodAll_cons_mk (shut_string Try.underlying9 w0) (trodAll_cons_mk (shut_int Try.underlying3 w1) (trodAll_cons_mk (shut_int Try.underlying3 w2) (trodAll_cons_mk (shut_int Try.underlying23 w3) trodAll_mk0))))) (fun _ => rfl)
    hg.1 (ok_one (by kernel_rfl) rfl (okWide_bool_mk Try.underlying4 _))⟩

theorem sumGood_holds : Rows.SumGoodSaid :=
  OpenClaim.holds_of_wide 8 Try.f8 rfl rfl rfl rfl rfl rfl rfl ⟨rfl, rfl, rfl, rfl, rfl⟩ rfl rfl rfl rfl rfl (by kernel_rfl) Try.func8 (by kernel_rfl)
    (of_decide_eq_true (by kernel_rfl)) (by unfold Func.isWrapper; first | (rw [if_pos (by decide +kernel)]; kernel_rfl) | (rw [if_neg (by decide +kernel)]; exact ⟨rfl, rfl⟩))
    (fun os started H enc _ => sumGood_lifted os started H enc)

#print axioms sumGood_holds

end Go.Proofs.Ytlgahhehagffeaa
