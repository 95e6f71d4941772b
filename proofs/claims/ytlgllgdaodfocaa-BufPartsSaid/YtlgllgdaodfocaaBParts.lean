/- The law BufParts: put in, or taken out, in two parts, one behind the other, it comes to the same. No condition. -/
import Derived.Test.YtlgllgdaodfocaaBAwake
import Derived.Test.YtlgllgdaodfocaaFrame
import Derived.Lib.Hide
import Derived.Deep.DeepCutAuto
import Derived.WalkLawsBesides
import Derived.WalkSpells
import Derived.BigQuiet
import Derived.BigRegion
import Derived.Deep.RegionHeld3
namespace Go.Proofs.Ytlgllgdaodfocaa
set_option linter.unusedVariables false
open Go.ChangeShapes Go.WideShapes Go.ChangeAt Go.RowKit Go.Joins
open Go.ChangeMaps (open_string shut_string)

set_option maxRecDepth 100000 in
set_option maxHeartbeats 16000000 in
theorem bufParts_walk (s : ByteArray) (hm : s.size ≤ maxLen) (n1 : Int) (n1l : -9223372036854775808 ≤ n1) (n1h : n1 ≤ 9223372036854775807) (n2 : Int) (n2l : -9223372036854775808 ≤ n2) (n2h : n2 ≤ 9223372036854775807) (n3 : Int) (n3l : -9223372036854775808 ≤ n3) (n3h : n3 ≤ 9223372036854775807) (w : World) :
    Calls Try.prog 7 #[.string s, .int .i64 n1, .int .i64 n2, .int .i64 n3] w fun e w' => e = .returned (.bool true) ∧ Wider w w' := by
  unfold maxLen at hm
  have H : Own w w [] := Own.nil (Wider.refl w)
  by_cases h0 : 4000 < s.size
  · have c0 : decide ((4000 : Int) < (s.size : Int)) = true := decide_eq_true (by omega)
    have c1 : decide (4000 < s.size) = true := decide_eq_true h0
    go_enter Try.func7, Try.ntmps7
    go_wp2_with (first
      | (go_at_call 11; ((with_reducible refine (awake5_c _).mono ?_); rintro e wa ⟨rfl, g⟩; replace H := H.quiet g; clear g)))
    go_ret
    exact ⟨rfl, H.wider⟩
  · have c0 : decide ((4000 : Int) < (s.size : Int)) = false := decide_eq_false (by omega)
    have c1 : decide (4000 < s.size) = false := decide_eq_false h0
    obtain ⟨k, hk⟩ : ∃ P, WithinR s.size n1 P := bwithin_ex _ _ (by omega)
    obtain ⟨x, hx⟩ : ∃ P, WithinR 200 n2 P := bwithin_ex _ _ (by omega)
    obtain ⟨y, hy⟩ : ∃ P, WithinR 200 n3 P := bwithin_ex _ _ (by omega)
    obtain ⟨z, hz⟩ : ∃ P, WithinR x n3 P := bwithin_ex _ _ (by have := hx.2; omega)
    obtain ⟨u, hu⟩ : ∃ P, WithinR (s.size - k) n2 P := bwithin_ex _ _ (by omega)
    obtain ⟨v, hv⟩ : ∃ P, WithinR (s.size - k - u) n3 P := bwithin_ex _ _ (by omega)
    have k1 := hk.2; have x1 := hx.2; have y1 := hy.2; have z1 := hz.2; have u1 := hu.2; have v1 := hv.2
    have zk := within_c s.size n1 (s.size : Int) rfl (by omega) n1l n1h hk
    have zx := within_c 200 n2 200 rfl (by omega) n2l n2h hx
    have zy := within_c 200 n3 200 rfl (by omega) n3l n3h hy
    have zz := within_c x n3 (x : Int) rfl (by omega) n3l n3h hz
    have zu := within_c (s.size - k) n2 ((s.size : Int) - (k : Int)) (by omega) (by omega) n2l n2h hu
    have zv := within_c (s.size - k - u) n3 ((s.size : Int) - (k : Int) - (u : Int)) (by omega) (by omega) n3l n3h hv
    have i1 := insR_of s k x k1 (by omega)
    have i2 := insR_of (insT s k x) (k + z) y (by rw [insT_size s k x k1]; omega) (by rw [insT_size s k x k1]; omega)
    rw [ins_ins s k x y z k1 z1, Int.natCast_add] at i2
    have i3 := insR_of s k (x + y) k1 (by omega)
    rw [Int.natCast_add] at i3
    have d1 := delR_of s k u (by omega)
    have d2 := delR_of (delT s k u) k v (by rw [delT_size s k u (by omega)]; omega)
    rw [del_del s k u v (by omega)] at d2
    have d3 := delR_of s k (u + v) (by omega)
    rw [Int.natCast_add] at d3
    obtain ⟨A, hA⟩ : ∃ A, insT s k x = A := ⟨_, rfl⟩
    obtain ⟨C, hC⟩ : ∃ C, insT s k (x + y) = C := ⟨_, rfl⟩
    obtain ⟨D, hD⟩ : ∃ D, delT s k u = D := ⟨_, rfl⟩
    obtain ⟨E, hE⟩ : ∃ E, delT s k (u + v) = E := ⟨_, rfl⟩
    rw [hA] at i1 i2; rw [hC] at i2 i3; rw [hD] at d1 d2; rw [hE] at d2 d3
    clear hk hx hy hz hu hv hA hC hD hE
    go_enter Try.func7, Try.ntmps7
    go_upto_region 9 with (first
          | (go_at_call 11; ((with_reducible refine (awake5_c _).mono ?_); rintro e wa ⟨rfl, g⟩; replace H := H.quiet g; clear g))
          | (go_at_call 24; ((with_reducible refine (zk _).mono ?_); rintro e w9 ⟨rfl, rfl⟩))
          | (go_at_call 24; ((with_reducible refine (zx _).mono ?_); rintro e w9 ⟨rfl, rfl⟩))
          | (go_at_call 24; ((with_reducible refine (zy _).mono ?_); rintro e w9 ⟨rfl, rfl⟩))
          | (go_at_call 24; ((with_reducible refine (zz _).mono ?_); rintro e w9 ⟨rfl, rfl⟩))
          | (go_at_call 25; ((with_reducible refine (of_1 s (by omega) H).mono ?_); clear H; rintro e w1 ⟨p, rfl, H⟩))
          | (go_at_call 25; ((with_reducible refine (of_2 s (by omega) H).mono ?_); clear H; rintro e w1 ⟨q, rfl, H⟩))
          | (go_at_call 13; ((with_reducible refine (bins_2 H (k : Int) (x : Int) (by omega) (by omega) (by omega) (by omega) i1).mono ?_); clear H; rintro e w1 ⟨rfl, H⟩))
          | (go_at_call 13; ((with_reducible refine (bins_2 H ((k : Int) + (z : Int)) (y : Int) (by omega) (by omega) (by omega) (by omega) i2).mono ?_); clear H; rintro e w1 ⟨rfl, H⟩))
          | (go_at_call 13; ((with_reducible refine (bins_2 H.swap (k : Int) ((x : Int) + (y : Int)) (by omega) (by omega) (by omega) (by omega) i3).mono ?_); clear H; rintro e w1 ⟨rfl, H⟩; replace H := H.swap))
          | (go_at_call 18; ((with_reducible refine (btext_2 H).mono ?_); clear H; rintro e w1 ⟨rfl, H⟩))
          | (go_at_call 18; ((with_reducible refine (btext_2 H.swap).mono ?_); clear H; rintro e w1 ⟨rfl, H⟩; replace H := H.swap)))
    replace H := H.drop.drop
    go_wp2_with (first
          | (go_at_call 24; ((with_reducible refine (zu _).mono ?_); rintro e w9 ⟨rfl, rfl⟩))
          | (go_at_call 24; ((with_reducible refine (zv _).mono ?_); rintro e w9 ⟨rfl, rfl⟩))
          | (go_at_call 25; ((with_reducible refine (of_1 s (by omega) H).mono ?_); clear H; rintro e w1 ⟨p, rfl, H⟩))
          | (go_at_call 25; ((with_reducible refine (of_2 s (by omega) H).mono ?_); clear H; rintro e w1 ⟨q, rfl, H⟩))
          | (go_at_call 14; ((with_reducible refine (bdel_2 H (k : Int) (u : Int) (by omega) (by omega) (by omega) (by omega) d1).mono ?_); clear H; rintro e w1 ⟨rfl, H⟩))
          | (go_at_call 14; ((with_reducible refine (bdel_2 H (k : Int) (v : Int) (by omega) (by omega) (by omega) (by omega) d2).mono ?_); clear H; rintro e w1 ⟨rfl, H⟩))
          | (go_at_call 14; ((with_reducible refine (bdel_2 H.swap (k : Int) ((u : Int) + (v : Int)) (by omega) (by omega) (by omega) (by omega) d3).mono ?_); clear H; rintro e w1 ⟨rfl, H⟩; replace H := H.swap))
          | (go_at_call 18; ((with_reducible refine (btext_2 H).mono ?_); clear H; rintro e w1 ⟨rfl, H⟩))
          | (go_at_call 18; ((with_reducible refine (btext_2 H.swap).mono ?_); clear H; rintro e w1 ⟨rfl, H⟩; replace H := H.swap)))
    go_ret
    exact ⟨rfl, H.wider⟩

set_option maxRecDepth 100000 in
theorem bufParts_lifted (os : Os) (started : os.Started) (H : Type) (enc : TypeId × Value → H) :
    ReturnsInHanded {} Try.checked os 7 .any (Rows.bufPartsSpec.pre6 enc Try.prog Try.f7 Rows.bufPartsRow.domain false) (Rows.bufPartsSpec.post enc Try.prog Try.f7 false true false false) := by
  refine returnsInHanded_of_change (C := Try.checked) own started (by kernel_rfl) Try.func7
    (ChangeSpec.witness6 (enc := enc) (C := Try.checked) false ⟨#[], #[.string ⟨#[]⟩, .int .i64 0, .int .i64 0, .int .i64 0], []⟩ 8 (by kernel_rfl) (by kernel_rfl) (by kernel_rfl) (by kernel_rfl)) ?_
  intro W base args ds gs before hval0 hW hcnd _
  have hval : ∀ (j : Nat) t v, Try.f7.params[j]? = some t → args[j]? = some v → Value.okWide Try.prog W .any base t v := hval0
  have hW' := hW
  obtain ⟨p, q, hA0, hV, rfl, hfz, hnd⟩ := hW
  have hA : DataW.TrodAll enc Try.prog W 0 (fun _ => true) true Try.f7.params.toList args.toList ds p := hA0
  rw [Try.params7] at hA hval
  obtain ⟨v0, vs0, d0, ds0, p0, q0, hargs, rfl, rfl, h0, r0⟩ := trodAll_cons hA
  obtain ⟨v1, vs1, d1, ds1, p1, q1, rfl, rfl, rfl, h1, r1⟩ := trodAll_cons r0
  obtain ⟨v2, vs2, d2, ds2, p2, q2, rfl, rfl, rfl, h2, r2⟩ := trodAll_cons r1
  obtain ⟨v3, vs3, d3, ds3, p3, q3, rfl, rfl, rfl, h3, r3⟩ := trodAll_cons r2
  obtain ⟨rfl, rfl, rfl⟩ := trodAll_nil r3
  obtain rfl : args = #[v0, v1, v2, v3] := by cases args; simp_all
  obtain ⟨rfl, rfl⟩ := trodVars_none hV
  obtain ⟨s0, rfl, rfl, rfl, w0⟩ := open_string Try.underlying9 (hval 0 9 v0 rfl rfl) h0
  obtain ⟨n1, rfl, rfl, rfl, w1⟩ := open_int Try.underlying3 (hval 1 3 v1 rfl rfl) h1
  obtain ⟨n2, rfl, rfl, rfl, w2⟩ := open_int Try.underlying3 (hval 2 3 v2 rfl rfl) h2
  obtain ⟨n3, rfl, rfl, rfl, w3⟩ := open_int Try.underlying3 (hval 3 3 v3 rfl rfl) h3
  clear hA0 hval0
  simp only [List.append_nil] at hW'
  refine (bufParts_walk s0 w0 n1 (bounds_i64 w1).1 (bounds_i64 w1).2 n2 (bounds_i64 w2).1 (bounds_i64 w2).2 n3 (bounds_i64 w3).1 (bounds_i64 w3).2 W).mono fun e W' ⟨he, hg⟩ => ?_
  subst he
  exact ⟨_, rfl, post_of_none hW' (fun _ _ _ => (trodAll_cons_mk (shut_bool Try.underlying4 _) trodAll_mk0)) (fun sp => (trodAll_cons_mk (shut_string Try.underlying9 w0) (trodAll_cons_mk (shut_int Try.underlying3 w1) (trodAll_cons_mk (shut_int Try.underlying3 w2) (trodAll_cons_mk (shut_int Try.underlying3 w3) trodAll_mk0))))) (fun _ => rfl)
    hg.1 (ok_one (by kernel_rfl) rfl (okWide_bool_mk Try.underlying4 _))⟩

theorem bufParts_holds : Rows.BufPartsSaid :=
  OpenClaim.holds_of_wide 7 Try.f7 rfl rfl rfl rfl rfl rfl rfl ⟨rfl, rfl, rfl, rfl, rfl⟩ rfl rfl rfl rfl rfl (by kernel_rfl) Try.func7 (by kernel_rfl)
    (of_decide_eq_true (by kernel_rfl)) (by unfold Func.isWrapper; first | (rw [if_pos (by decide +kernel)]; kernel_rfl) | (rw [if_neg (by decide +kernel)]; exact ⟨rfl, rfl⟩))
    (fun os started H enc _ => bufParts_lifted os started H enc)

#print axioms bufParts_holds

end Go.Proofs.Ytlgllgdaodfocaa
