/- The law FieldTells: any word's text, how many bytes any width needs, whether any field matches, and how many first bits are alike, are the document's. No condition. -/
import Derived.Test.YtmlmamhcglpfeaaFAwake
import Derived.Test.YtmlmamhcglpfeaaFrame
import Derived.Test.YtmlmamhcglpfeaaFRefE
import Derived.Lib.Hide
import Derived.Deep.DeepCutAuto
import Derived.WalkLawsBesides
import Derived.WalkSpells
namespace Go.Proofs.Ytmlmamhcglpfeaa
set_option linter.unusedVariables false
open Go.ChangeShapes Go.WideShapes Go.ChangeAt Go.RowKit Go.Joins
open Go.ChangeMaps (open_string shut_string)

set_option maxRecDepth 100000 in
set_option maxHeartbeats 8000000 in
theorem fieldTells_walk (s : ByteArray) (hm : s.size ≤ maxLen) (t : ByteArray) (hm2 : t.size ≤ maxLen) (n2 : Int) (n2l : -9223372036854775808 ≤ n2) (n2h : n2 ≤ 9223372036854775807) (n3 : Int) (n3l : -9223372036854775808 ≤ n3) (n3h : n3 ≤ 9223372036854775807) (a4 b4 : Int) (x4 : BitVec 128) (hx4 : IsW a4 b4 x4) (a5 b5 : Int) (x5 : BitVec 128) (hx5 : IsW a5 b5 x5) (w : World) :
    Calls Try.prog 6 #[.string s, .string t, .int .i64 n2, .int .i64 n3, .agg #[.int .u64 a4, .int .u64 b4], .agg #[.int .u64 a5, .int .u64 b5]] w fun e w' => e = .returned (.bool true) ∧ Wider w w' := by
  unfold maxLen at hm hm2
  have G : Hid (Wider w w) := Wider.refl w
  by_cases h0 : s.size ≤ 3000 ∧ t.size ≤ 3000
  · have d0 : decide (3000 < (s.size : Int)) = false := decide_eq_false (by omega)
    have d1 : decide (3000 < (t.size : Int)) = false := decide_eq_false (by omega)
    obtain ⟨h0, h1⟩ := h0
    obtain ⟨T, r, hp⟩ := textR_ex x4 n3
    obtain ⟨b, r2, hq⟩ := matchR_ex s n2 n3 x4 x5
    obtain ⟨k, hk⟩ := isPre_ex s t
    obtain ⟨c, hc⟩ : ∃ c : Int, bytesF n3 = c := ⟨_, rfl⟩
    have z1 := ftext_g x4 n3 hx4 hp
    have z2 := rtext_g x4 n3 n3l n3h hx4 hp
    have z3 := match_g s n2 n3 x4 x5 (by omega) n2l n2h n3l n3h hx4 hx5 hq
    have z4 := rmatch_g s n2 n3 x4 x5 (by omega) n2l n2h n3l n3h hx4 hx5 hq
    have z5 := fbytes_c n3 hc
    have z6 := rbytes_c n3 n3l n3h hc
    have z7 := prefix_c s t (by omega) (by omega) hk
    have z8 := rprefix_c s t (by omega) (by omega) hk
    clear hp hq hk hc
    have k0 : ((w.alloc (.cells #[.int .u64 a4, .int .u64 b4] 24)).alloc (.cells #[.int .u64 a5, .int .u64 b5] 24)).cell? ⟨w.heap.size, 0, none⟩ = some (.int .u64 a4) := by simp [go_sem]
    have k1 : ((w.alloc (.cells #[.int .u64 a4, .int .u64 b4] 24)).alloc (.cells #[.int .u64 a5, .int .u64 b5] 24)).cell? ⟨w.heap.size, 1, none⟩ = some (.int .u64 b4) := by simp [go_sem]
    have k2 : ((w.alloc (.cells #[.int .u64 a4, .int .u64 b4] 24)).alloc (.cells #[.int .u64 a5, .int .u64 b5] 24)).cell? ⟨w.heap.size + 1, 0, none⟩ = some (.int .u64 a5) := by simp [go_sem]
    have k3 : ((w.alloc (.cells #[.int .u64 a4, .int .u64 b4] 24)).alloc (.cells #[.int .u64 a5, .int .u64 b5] 24)).cell? ⟨w.heap.size + 1, 1, none⟩ = some (.int .u64 b5) := by simp [go_sem]
    replace G := halloc2 (halloc2 G (.cells #[.int .u64 a4, .int .u64 b4] 24)) (.cells #[.int .u64 a5, .int .u64 b5] 24)
    go_enter Try.func6, Try.ntmps6
    go_wp2_with (first
      | (go_at_call 26; ((with_reducible refine (awake2_c _).mono ?_); rintro e wa ⟨rfl, g⟩; replace k0 := wkeep g k0; replace k1 := wkeep g k1; replace k2 := wkeep g k2; replace k3 := wkeep g k3; replace G := htrans G g; clear g))
      | (go_at_call 31; ((with_reducible refine (z1 _).mono ?_); rintro e w1 ⟨rfl, g⟩; replace k0 := gkeep g k0; replace k1 := gkeep g k1; replace k2 := gkeep g k2; replace k3 := gkeep g k3; replace G := hgrown G g; clear g))
      | (go_at_call 32; ((with_reducible refine (z2 _).mono ?_); rintro e w2 ⟨rfl, g⟩; replace k0 := gkeep g k0; replace k1 := gkeep g k1; replace k2 := gkeep g k2; replace k3 := gkeep g k3; replace G := hgrown G g; clear g))
      | (go_at_call 33; ((with_reducible refine (z3 _).mono ?_); rintro e w3 ⟨rfl, g⟩; replace k0 := gkeep g k0; replace k1 := gkeep g k1; replace k2 := gkeep g k2; replace k3 := gkeep g k3; replace G := hgrown G g; clear g))
      | (go_at_call 34; ((with_reducible refine (z4 _).mono ?_); rintro e w4 ⟨rfl, g⟩; replace k0 := gkeep g k0; replace k1 := gkeep g k1; replace k2 := gkeep g k2; replace k3 := gkeep g k3; replace G := hgrown G g; clear g))
      | (go_at_call 35; ((with_reducible refine (z5 _).mono ?_); rintro e w9 ⟨rfl, rfl⟩))
      | (go_at_call 36; ((with_reducible refine (z6 _).mono ?_); rintro e w9 ⟨rfl, rfl⟩))
      | (go_at_call 37; ((with_reducible refine (z7 _).mono ?_); rintro e w7 ⟨rfl, g⟩; replace k0 := gkeep g k0; replace k1 := gkeep g k1; replace k2 := gkeep g k2; replace k3 := gkeep g k3; replace G := hgrown G g; clear g))
      | (go_at_call 38; ((with_reducible refine (z8 _).mono ?_); rintro e w9 ⟨rfl, rfl⟩)))
    go_ret
    exact ⟨rfl, G.out⟩
  · have k0 : ((w.alloc (.cells #[.int .u64 a4, .int .u64 b4] 24)).alloc (.cells #[.int .u64 a5, .int .u64 b5] 24)).cell? ⟨w.heap.size, 0, none⟩ = some (.int .u64 a4) := by simp [go_sem]
    have k1 : ((w.alloc (.cells #[.int .u64 a4, .int .u64 b4] 24)).alloc (.cells #[.int .u64 a5, .int .u64 b5] 24)).cell? ⟨w.heap.size, 1, none⟩ = some (.int .u64 b4) := by simp [go_sem]
    have k2 : ((w.alloc (.cells #[.int .u64 a4, .int .u64 b4] 24)).alloc (.cells #[.int .u64 a5, .int .u64 b5] 24)).cell? ⟨w.heap.size + 1, 0, none⟩ = some (.int .u64 a5) := by simp [go_sem]
    have k3 : ((w.alloc (.cells #[.int .u64 a4, .int .u64 b4] 24)).alloc (.cells #[.int .u64 a5, .int .u64 b5] 24)).cell? ⟨w.heap.size + 1, 1, none⟩ = some (.int .u64 b5) := by simp [go_sem]
    replace G := halloc2 (halloc2 G (.cells #[.int .u64 a4, .int .u64 b4] 24)) (.cells #[.int .u64 a5, .int .u64 b5] 24)
    by_cases h1 : s.size ≤ 3000
    · have d0 : decide (3000 < (s.size : Int)) = false := decide_eq_false (by omega)
      have d1 : decide (3000 < (t.size : Int)) = true := decide_eq_true (by omega)
      go_enter Try.func6, Try.ntmps6
      go_wp2_with (go_at_call 26; ((with_reducible refine (awake2_c _).mono ?_); rintro e wa ⟨rfl, g⟩; replace k0 := wkeep g k0; replace k1 := wkeep g k1; replace k2 := wkeep g k2; replace k3 := wkeep g k3; replace G := htrans G g; clear g))
      go_ret
      exact ⟨rfl, G.out⟩
    · have d0 : decide (3000 < (s.size : Int)) = true := decide_eq_true (by omega)
      go_enter Try.func6, Try.ntmps6
      go_wp2_with (go_at_call 26; ((with_reducible refine (awake2_c _).mono ?_); rintro e wa ⟨rfl, g⟩; replace k0 := wkeep g k0; replace k1 := wkeep g k1; replace k2 := wkeep g k2; replace k3 := wkeep g k3; replace G := htrans G g; clear g))
      go_ret
      exact ⟨rfl, G.out⟩

set_option maxRecDepth 100000 in
theorem fieldTells_lifted (os : Os) (started : os.Started) (H : Type) (enc : TypeId × Value → H) :
    ReturnsInHanded {} Try.checked os 6 .any (Rows.fieldTellsSpec.pre6 enc Try.prog Try.f6 Rows.fieldTellsRow.domain false) (Rows.fieldTellsSpec.post enc Try.prog Try.f6 false true false false) := by
  refine returnsInHanded_of_change (C := Try.checked) own started (by kernel_rfl) Try.func6
    (ChangeSpec.witness6 (enc := enc) (C := Try.checked) false ⟨#[], #[.string ⟨#[]⟩, .string ⟨#[]⟩, .int .i64 0, .int .i64 0, .agg #[.int .u64 0, .int .u64 0], .agg #[.int .u64 0, .int .u64 0]], []⟩ 8 (by kernel_rfl) (by kernel_rfl) (by kernel_rfl) (by kernel_rfl)) ?_
  intro W base args ds gs before hval0 hW hcnd _
  have hval : ∀ (j : Nat) t v, Try.f6.params[j]? = some t → args[j]? = some v → Value.okWide Try.prog W .any base t v := hval0
  have hW' := hW
  obtain ⟨p, q, hA0, hV, rfl, hfz, hnd⟩ := hW
  have hA : DataW.TrodAll enc Try.prog W 0 (fun _ => true) true Try.f6.params.toList args.toList ds p := hA0
  rw [Try.params6] at hA hval
  obtain ⟨v0, vs0, d0, ds0, p0, q0, hargs, rfl, rfl, h0, r0⟩ := trodAll_cons hA
  obtain ⟨v1, vs1, d1, ds1, p1, q1, rfl, rfl, rfl, h1, r1⟩ := trodAll_cons r0
  obtain ⟨v2, vs2, d2, ds2, p2, q2, rfl, rfl, rfl, h2, r2⟩ := trodAll_cons r1
  obtain ⟨v3, vs3, d3, ds3, p3, q3, rfl, rfl, rfl, h3, r3⟩ := trodAll_cons r2
  obtain ⟨v4, vs4, d4, ds4, p4, q4, rfl, rfl, rfl, h4, r4⟩ := trodAll_cons r3
  obtain ⟨v5, vs5, d5, ds5, p5, q5, rfl, rfl, rfl, h5, r5⟩ := trodAll_cons r4
  obtain ⟨rfl, rfl, rfl⟩ := trodAll_nil r5
  obtain rfl : args = #[v0, v1, v2, v3, v4, v5] := by cases args; simp_all
  obtain ⟨rfl, rfl⟩ := trodVars_none hV
  obtain ⟨s0, rfl, rfl, rfl, w0⟩ := open_string Try.underlying9 (hval 0 9 v0 rfl rfl) h0
  obtain ⟨s1, rfl, rfl, rfl, w1⟩ := open_string Try.underlying9 (hval 1 9 v1 rfl rfl) h1
  obtain ⟨n2, rfl, rfl, rfl, w2⟩ := open_int Try.underlying3 (hval 2 3 v2 rfl rfl) h2
  obtain ⟨n3, rfl, rfl, rfl, w3⟩ := open_int Try.underlying3 (hval 3 3 v3 rfl rfl) h3
  obtain ⟨a4, b4, rfl, rfl, rfl, wa4, wb4⟩ := open_word (hval 4 24 v4 rfl rfl) h4
  obtain ⟨x4, hx4⟩ := word_in wa4 wb4
  obtain ⟨a5, b5, rfl, rfl, rfl, wa5, wb5⟩ := open_word (hval 5 24 v5 rfl rfl) h5
  obtain ⟨x5, hx5⟩ := word_in wa5 wb5
  clear hA0 hval0
  simp only [List.append_nil] at hW'
  refine (fieldTells_walk s0 w0 s1 w1 n2 (bounds_i64 w2).1 (bounds_i64 w2).2 n3 (bounds_i64 w3).1 (bounds_i64 w3).2 a4 b4 x4 hx4 a5 b5 x5 hx5 W).mono fun e W' ⟨he, hg⟩ => ?_
  subst he
  exact ⟨_, rfl, post_of_none hW' (fun _ _ _ => (trodAll_cons_mk (shut_bool Try.underlying4 _) trodAll_mk0)) (fun sp => (trodAll_cons_mk (shut_string Try.underlying9 w0) (trodAll_cons_mk (shut_string Try.underlying9 w1) (trodAll_cons_mk (shut_int Try.underlying3 w2) (trodAll_cons_mk (shut_int Try.underlying3 w3) (trodAll_cons_mk (shut_word wa4 wb4) (trodAll_cons_mk (shut_word wa5 wb5) trodAll_mk0))))))) (fun _ => rfl)
    hg.1 (ok_one (by kernel_rfl) rfl (okWide_bool_mk Try.underlying4 _))⟩

theorem fieldTells_holds : Rows.FieldTellsSaid :=
  OpenClaim.holds_of_wide 6 Try.f6 rfl rfl rfl rfl rfl rfl rfl ⟨rfl, rfl, rfl, rfl, rfl⟩ rfl rfl rfl rfl rfl (by kernel_rfl) Try.func6 (by kernel_rfl)
    (of_decide_eq_true (by kernel_rfl)) (by unfold Func.isWrapper; first | (rw [if_pos (by decide +kernel)]; kernel_rfl) | (rw [if_neg (by decide +kernel)]; exact ⟨rfl, rfl⟩))
    (fun os started H enc _ => fieldTells_lifted os started H enc)

#print axioms fieldTells_holds

end Go.Proofs.Ytmlmamhcglpfeaa
