/- The law SumRing: Add does not hang on the row, nor on which are put together first; it is 0 of two 0s alone; 0, and 65535 to what is not 0, change nothing. No condition. -/
import Derived.Test.YtlgahhehagffeaaSAwake
import Derived.Test.YtlgahhehagffeaaSOpen
import Derived.Lib.Hide
import Derived.Deep.DeepCutAuto
import Derived.WalkLawsBesides
import Derived.WalkSpells
namespace Go.Proofs.Ytlgahhehagffeaa
set_option linter.unusedVariables false
open Go.ChangeShapes Go.WideShapes Go.ChangeAt Go.RowKit Go.Joins
open Go.ChangeMaps (open_string shut_string)

set_option maxRecDepth 100000 in
set_option maxHeartbeats 4000000 in
theorem sumRing_walk (n0 : Int) (n0l : 0 ≤ n0) (n0h : n0 < 65536) (n1 : Int) (n1l : 0 ≤ n1) (n1h : n1 < 65536) (n2 : Int) (n2l : 0 ≤ n2) (n2h : n2 < 65536) (w : World) :
    Calls Try.prog 6 #[.int .u16 n0, .int .u16 n1, .int .u16 n2] w fun e w' => e = .returned (.bool true) ∧ Wider w w' := by
  obtain ⟨a, rfl⟩ := Int.eq_ofNat_of_zero_le n0l
  obtain ⟨b, rfl⟩ := Int.eq_ofNat_of_zero_le n1l
  obtain ⟨c, rfl⟩ := Int.eq_ofNat_of_zero_le n2l
  have ha : a < 65536 := by omega
  have hb : b < 65536 := by omega
  have hc : c < 65536 := by omega
  clear n0l n0h n1l n1h n2l n2h
  have G : Hid (Wider w w) := Wider.refl w
  obtain ⟨n, hn⟩ : ∃ n, oc a b = n := ⟨_, rfl⟩
  have ln : n < 65536 := by rw [← hn]; exact oc_lt ha hb
  obtain ⟨m, hm⟩ : ∃ m, oc b c = m := ⟨_, rfl⟩
  have lm : m < 65536 := by rw [← hm]; exact oc_lt hb hc
  obtain ⟨r, hr⟩ : ∃ r, oc n c = r := ⟨_, rfl⟩
  have hr2 : oc a m = r := by rw [← hr, ← hn, ← hm]; exact (oc_assoc ha hb hc).symm
  have z1 := sadd_c a b ha hb hn
  have z2 := sadd_c b a hb ha ((oc_comm b a).trans hn)
  have z3 := sadd_c n c ln hc hr
  have z4 := sadd_c b c hb hc hm
  have z5 := sadd_c a m ha lm hr2
  have z6 : ∀ W : World, Calls Try.prog 15 #[.int .u16 (a : Int), .int .u16 0] W fun e w' => e = .returned (.int .u16 (a : Int)) ∧ Wider W w' := sadd_c a 0 ha (by decide) (oc_none ha)
  obtain ⟨a', ha'⟩ : ∃ a', 65535 - a = a' := ⟨_, rfl⟩
  have z8' := sadd_c a a' ha (by omega) (r := 65535) (by rw [← ha']; exact oc_not ha)
  have z8 : ∀ W : World, Calls Try.prog 15 #[.int .u16 (a : Int), .int .u16 (a' : Int)] W fun e w' => e = .returned (.int .u16 65535) ∧ Wider W w' := z8'
  have hx0 := not_u16 a ha
  have hx : bits .xor .u16 IntKind.u16.max (a : Int) = (a' : Int) := by rw [hx0]; omega
  clear hx0 z8' ha'
  have hz := oc_zero ha hb
  rw [hn] at hz
  by_cases ca : a = 0
  · have e1 : ((a : Int) == 0) = true := by simpa using ca
    have z7 := z6
    by_cases cb : b = 0
    · have e2 : ((b : Int) == 0) = true := by simpa using cb
      have e3 : ((n : Int) == 0) = true := by simpa using hz.2 ⟨ca, cb⟩
      clear hn hm hr hr2 hz ca cb
      go_enter Try.func6, Try.ntmps6
      go_wp2_with (first
      | (go_at_call 12; ((with_reducible refine (awake3_c _).mono ?_); rintro e wa ⟨rfl, g⟩; replace G := htrans G g; clear g))
      | (go_at_call 15; ((with_reducible refine (z1 _).mono ?_); rintro e w1 ⟨rfl, g⟩; replace G := htrans G g; clear g))
      | (go_at_call 15; ((with_reducible refine (z2 _).mono ?_); rintro e w1 ⟨rfl, g⟩; replace G := htrans G g; clear g))
      | (go_at_call 15; ((with_reducible refine (z3 _).mono ?_); rintro e w1 ⟨rfl, g⟩; replace G := htrans G g; clear g))
      | (go_at_call 15; ((with_reducible refine (z4 _).mono ?_); rintro e w1 ⟨rfl, g⟩; replace G := htrans G g; clear g))
      | (go_at_call 15; ((with_reducible refine (z5 _).mono ?_); rintro e w1 ⟨rfl, g⟩; replace G := htrans G g; clear g))
      | (go_at_call 15; ((with_reducible refine (z6 _).mono ?_); rintro e w1 ⟨rfl, g⟩; replace G := htrans G g; clear g))
      | (go_at_call 15; ((with_reducible refine (z7 _).mono ?_); rintro e w1 ⟨rfl, g⟩; replace G := htrans G g; clear g))
      | (go_at_call 15; ((with_reducible refine (z8 _).mono ?_); rintro e w1 ⟨rfl, g⟩; replace G := htrans G g; clear g)))
      go_ret
      exact ⟨rfl, G.out⟩
    · have e2 : ((b : Int) == 0) = false := by simpa using cb
      have e3 : ((n : Int) == 0) = false := by simp; exact fun h => cb (hz.1 h).2
      clear hn hm hr hr2 hz ca cb
      go_enter Try.func6, Try.ntmps6
      go_wp2_with (first
      | (go_at_call 12; ((with_reducible refine (awake3_c _).mono ?_); rintro e wa ⟨rfl, g⟩; replace G := htrans G g; clear g))
      | (go_at_call 15; ((with_reducible refine (z1 _).mono ?_); rintro e w1 ⟨rfl, g⟩; replace G := htrans G g; clear g))
      | (go_at_call 15; ((with_reducible refine (z2 _).mono ?_); rintro e w1 ⟨rfl, g⟩; replace G := htrans G g; clear g))
      | (go_at_call 15; ((with_reducible refine (z3 _).mono ?_); rintro e w1 ⟨rfl, g⟩; replace G := htrans G g; clear g))
      | (go_at_call 15; ((with_reducible refine (z4 _).mono ?_); rintro e w1 ⟨rfl, g⟩; replace G := htrans G g; clear g))
      | (go_at_call 15; ((with_reducible refine (z5 _).mono ?_); rintro e w1 ⟨rfl, g⟩; replace G := htrans G g; clear g))
      | (go_at_call 15; ((with_reducible refine (z6 _).mono ?_); rintro e w1 ⟨rfl, g⟩; replace G := htrans G g; clear g))
      | (go_at_call 15; ((with_reducible refine (z7 _).mono ?_); rintro e w1 ⟨rfl, g⟩; replace G := htrans G g; clear g))
      | (go_at_call 15; ((with_reducible refine (z8 _).mono ?_); rintro e w1 ⟨rfl, g⟩; replace G := htrans G g; clear g)))
      go_ret
      exact ⟨rfl, G.out⟩
  · have e1 : ((a : Int) == 0) = false := by simpa using ca
    have e3 : ((n : Int) == 0) = false := by simp; exact fun h => ca (hz.1 h).1
    have z7 : ∀ W : World, Calls Try.prog 15 #[.int .u16 (a : Int), .int .u16 65535] W fun e w' => e = .returned (.int .u16 (a : Int)) ∧ Wider W w' := sadd_c a 65535 ha (by decide) (oc_full ha ca)
    clear hn hm hr hr2 hz ca
    go_enter Try.func6, Try.ntmps6
    go_wp2_with (first
      | (go_at_call 12; ((with_reducible refine (awake3_c _).mono ?_); rintro e wa ⟨rfl, g⟩; replace G := htrans G g; clear g))
      | (go_at_call 15; ((with_reducible refine (z1 _).mono ?_); rintro e w1 ⟨rfl, g⟩; replace G := htrans G g; clear g))
      | (go_at_call 15; ((with_reducible refine (z2 _).mono ?_); rintro e w1 ⟨rfl, g⟩; replace G := htrans G g; clear g))
      | (go_at_call 15; ((with_reducible refine (z3 _).mono ?_); rintro e w1 ⟨rfl, g⟩; replace G := htrans G g; clear g))
      | (go_at_call 15; ((with_reducible refine (z4 _).mono ?_); rintro e w1 ⟨rfl, g⟩; replace G := htrans G g; clear g))
      | (go_at_call 15; ((with_reducible refine (z5 _).mono ?_); rintro e w1 ⟨rfl, g⟩; replace G := htrans G g; clear g))
      | (go_at_call 15; ((with_reducible refine (z6 _).mono ?_); rintro e w1 ⟨rfl, g⟩; replace G := htrans G g; clear g))
      | (go_at_call 15; ((with_reducible refine (z7 _).mono ?_); rintro e w1 ⟨rfl, g⟩; replace G := htrans G g; clear g))
      | (go_at_call 15; ((with_reducible refine (z8 _).mono ?_); rintro e w1 ⟨rfl, g⟩; replace G := htrans G g; clear g)))
    go_ret
    exact ⟨rfl, G.out⟩

set_option maxRecDepth 100000 in
theorem sumRing_lifted (os : Os) (started : os.Started) (H : Type) (enc : TypeId × Value → H) :
    ReturnsInHanded {} Try.checked os 6 .any (Rows.sumRingSpec.pre6 enc Try.prog Try.f6 Rows.sumRingRow.domain false) (Rows.sumRingSpec.post enc Try.prog Try.f6 false true false false) := by
  refine returnsInHanded_of_change (C := Try.checked) own started (by kernel_rfl) Try.func6
    (ChangeSpec.witness6 (enc := enc) (C := Try.checked) false ⟨#[], #[.int .u16 0, .int .u16 0, .int .u16 0], []⟩ 8 (by kernel_rfl) (by kernel_rfl) (by kernel_rfl) (by kernel_rfl)) ?_
  intro W base args ds gs before hval0 hW hcnd _
  have hval : ∀ (j : Nat) t v, Try.f6.params[j]? = some t → args[j]? = some v → Value.okWide Try.prog W .any base t v := hval0
  have hW' := hW
  obtain ⟨p, q, hA0, hV, rfl, hfz, hnd⟩ := hW
  have hA : DataW.TrodAll enc Try.prog W 0 (fun _ => true) true Try.f6.params.toList args.toList ds p := hA0
  rw [Try.params6] at hA hval
  obtain ⟨v0, vs0, d0, ds0, p0, q0, hargs, rfl, rfl, h0, r0⟩ := trodAll_cons hA
  obtain ⟨v1, vs1, d1, ds1, p1, q1, rfl, rfl, rfl, h1, r1⟩ := trodAll_cons r0
  obtain ⟨v2, vs2, d2, ds2, p2, q2, rfl, rfl, rfl, h2, r2⟩ := trodAll_cons r1
  obtain ⟨rfl, rfl, rfl⟩ := trodAll_nil r2
  obtain rfl : args = #[v0, v1, v2] := by cases args; simp_all
  obtain ⟨rfl, rfl⟩ := trodVars_none hV
  obtain ⟨n0, rfl, rfl, rfl, w0⟩ := open_int Try.underlying23 (hval 0 23 v0 rfl rfl) h0
  obtain ⟨n1, rfl, rfl, rfl, w1⟩ := open_int Try.underlying23 (hval 1 23 v1 rfl rfl) h1
  obtain ⟨n2, rfl, rfl, rfl, w2⟩ := open_int Try.underlying23 (hval 2 23 v2 rfl rfl) h2
  clear hA0 hval0
  simp only [List.append_nil] at hW'
  refine (sumRing_walk n0 (bounds_u16 w0).1 (bounds_u16 w0).2 n1 (bounds_u16 w1).1 (bounds_u16 w1).2 n2 (bounds_u16 w2).1 (bounds_u16 w2).2 W).mono fun e W' ⟨he, hg⟩ => ?_
  subst he
  exact ⟨_, rfl, post_of_none hW' (fun _ _ _ => (trodAll_cons_mk (shut_bool Try.underlying4 _) trodAll_mk0)) (fun sp => (trodAll_cons_mk (shut_int Try.underlying23 w0) (trodAll_cons_mk (shut_int Try.underlying23 w1) (trodAll_cons_mk (shut_int Try.underlying23 w2) trodAll_mk0)))) (fun _ => rfl)
    hg.1 (ok_one (by kernel_rfl) rfl (okWide_bool_mk Try.underlying4 _))⟩

theorem sumRing_holds : Rows.SumRingSaid :=
  OpenClaim.holds_of_wide 6 Try.f6 rfl rfl rfl rfl rfl rfl rfl ⟨rfl, rfl, rfl, rfl, rfl⟩ rfl rfl rfl rfl rfl (by kernel_rfl) Try.func6 (by kernel_rfl)
    (of_decide_eq_true (by kernel_rfl)) (by unfold Func.isWrapper; first | (rw [if_pos (by decide +kernel)]; kernel_rfl) | (rw [if_neg (by decide +kernel)]; exact ⟨rfl, rfl⟩))
    (fun os started H enc _ => sumRing_lifted os started H enc)

#print axioms sumRing_holds

end Go.Proofs.Ytlgahhehagffeaa
