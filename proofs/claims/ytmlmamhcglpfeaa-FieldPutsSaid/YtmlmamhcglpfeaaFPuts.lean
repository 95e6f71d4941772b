/- The law FieldPuts: what any text becomes, when any word is put into any field of it, is the document's, or it is refused. No condition. -/
import Derived.Test.YtmlmamhcglpfeaaFAwake
import Derived.Test.YtmlmamhcglpfeaaFrame
import Derived.Test.YtmlmamhcglpfeaaFRefD
import Derived.Lib.Hide
import Derived.Deep.DeepCutAuto
import Derived.WalkLawsBesides
import Derived.WalkSpells
namespace Go.Proofs.Ytmlmamhcglpfeaa
set_option linter.unusedVariables false
open Go.ChangeShapes Go.WideShapes Go.ChangeAt Go.RowKit Go.Joins
open Go.ChangeMaps (open_string shut_string)

set_option maxHeartbeats 4000000 in
theorem fieldPuts_walk (s : ByteArray) (hm : s.size ≤ maxLen) (n1 : Int) (n1l : -9223372036854775808 ≤ n1) (n1h : n1 ≤ 9223372036854775807) (n2 : Int) (n2l : -9223372036854775808 ≤ n2) (n2h : n2 ≤ 9223372036854775807) (a3 b3 : Int) (x3 : BitVec 128) (hx3 : IsW a3 b3 x3) (w : World) :
    Calls Try.prog 5 #[.string s, .int .i64 n1, .int .i64 n2, .agg #[.int .u64 a3, .int .u64 b3]] w fun e w' => e = .returned (.bool true) ∧ Wider w w' := by
  unfold maxLen at hm
  have G : Hid (Wider w w) := Wider.refl w
  by_cases h0 : s.size ≤ 3000
  · have d0 : decide (3000 < (s.size : Int)) = false := decide_eq_false (by omega)
    obtain ⟨T, r, hp⟩ := putR_ex s n1 n2 x3
    have za := put_g s n1 n2 x3 (by omega) n1l n1h n2l n2h hx3 hp
    have zb := rput_g s n1 n2 x3 (by omega) n1l n1h n2l n2h hx3 hp
    clear hp
    have k0 : (w.alloc (.cells #[.int .u64 a3, .int .u64 b3] 24)).cell? ⟨w.heap.size, 0, none⟩ = some (.int .u64 a3) := by simp [go_sem]
    have k1 : (w.alloc (.cells #[.int .u64 a3, .int .u64 b3] 24)).cell? ⟨w.heap.size, 1, none⟩ = some (.int .u64 b3) := by simp [go_sem]
    replace G := halloc2 G (.cells #[.int .u64 a3, .int .u64 b3] 24)
    go_enter Try.func5, Try.ntmps5
    go_wp2_with (first
      | (go_at_call 26; ((with_reducible refine (awake2_c _).mono ?_); rintro e wa ⟨rfl, g⟩; replace k0 := wkeep g k0; replace k1 := wkeep g k1; replace G := htrans G g; clear g))
      | (go_at_call 29; ((with_reducible refine (za _).mono ?_); rintro e w5 ⟨rfl, g⟩; replace k0 := wkeep g k0; replace k1 := wkeep g k1; replace G := htrans G g; clear g))
      | (go_at_call 30; ((with_reducible refine (zb _).mono ?_); rintro e w6 ⟨rfl, g⟩; replace k0 := gkeep g k0; replace k1 := gkeep g k1; replace G := hgrown G g; clear g)))
    go_ret
    exact ⟨rfl, G.out⟩
  · have d0 : decide (3000 < (s.size : Int)) = true := decide_eq_true (by omega)
    have k0 : (w.alloc (.cells #[.int .u64 a3, .int .u64 b3] 24)).cell? ⟨w.heap.size, 0, none⟩ = some (.int .u64 a3) := by simp [go_sem]
    have k1 : (w.alloc (.cells #[.int .u64 a3, .int .u64 b3] 24)).cell? ⟨w.heap.size, 1, none⟩ = some (.int .u64 b3) := by simp [go_sem]
    replace G := halloc2 G (.cells #[.int .u64 a3, .int .u64 b3] 24)
    go_enter Try.func5, Try.ntmps5
    go_wp2_with (go_at_call 26; ((with_reducible refine (awake2_c _).mono ?_); rintro e wa ⟨rfl, g⟩; replace k0 := wkeep g k0; replace k1 := wkeep g k1; replace G := htrans G g; clear g))
    go_ret
    exact ⟨rfl, G.out⟩

set_option maxRecDepth 100000 in
theorem fieldPuts_lifted (os : Os) (started : os.Started) (H : Type) (enc : TypeId × Value → H) :
    ReturnsInHanded {} Try.checked os 5 .any (Rows.fieldPutsSpec.pre6 enc Try.prog Try.f5 Rows.fieldPutsRow.domain false) (Rows.fieldPutsSpec.post enc Try.prog Try.f5 false true false false) := by
  refine returnsInHanded_of_change (C := Try.checked) own started (by kernel_rfl) Try.func5
    (ChangeSpec.witness6 (enc := enc) (C := Try.checked) false ⟨#[], #[.string ⟨#[]⟩, .int .i64 0, .int .i64 0, .agg #[.int .u64 0, .int .u64 0]], []⟩ 8 (by kernel_rfl) (by kernel_rfl) (by kernel_rfl) (by kernel_rfl)) ?_
  intro W base args ds gs before hval0 hW hcnd _
  have hval : ∀ (j : Nat) t v, Try.f5.params[j]? = some t → args[j]? = some v → Value.okWide Try.prog W .any base t v := hval0
  have hW' := hW
  obtain ⟨p, q, hA0, hV, rfl, hfz, hnd⟩ := hW
  have hA : DataW.TrodAll enc Try.prog W 0 (fun _ => true) true Try.f5.params.toList args.toList ds p := hA0
  rw [Try.params5] at hA hval
  obtain ⟨v0, vs0, d0, ds0, p0, q0, hargs, rfl, rfl, h0, r0⟩ := trodAll_cons hA
  obtain ⟨v1, vs1, d1, ds1, p1, q1, rfl, rfl, rfl, h1, r1⟩ := trodAll_cons r0
  obtain ⟨v2, vs2, d2, ds2, p2, q2, rfl, rfl, rfl, h2, r2⟩ := trodAll_cons r1
  obtain ⟨v3, vs3, d3, ds3, p3, q3, rfl, rfl, rfl, h3, r3⟩ := trodAll_cons r2
  obtain ⟨rfl, rfl, rfl⟩ := trodAll_nil r3
  obtain rfl : args = #[v0, v1, v2, v3] := by cases args; simp_all
  obtain ⟨rfl, rfl⟩ := trodVars_none hV
  obtain ⟨s0, rfl, rfl, rfl, w0⟩ := open_string Try.underlying9 (hval 0 9 v0 rfl rfl) h0
  obtain ⟨n1, rfl, rfl, rfl, w1⟩ := open_int Try.underlying3 (hval 1 3 v1 rfl rfl) h1
  obtain ⟨n2, rfl, rfl, rfl, w2⟩ := open_int Try.underlying3 (hval 2 3 v2 rfl rfl) h2
  obtain ⟨a3, b3, rfl, rfl, rfl, wa3, wb3⟩ := open_word (hval 3 24 v3 rfl rfl) h3
  obtain ⟨x3, hx3⟩ := word_in wa3 wb3
  clear hA0 hval0
  simp only [List.append_nil] at hW'
  refine (fieldPuts_walk s0 w0 n1 (bounds_i64 w1).1 (bounds_i64 w1).2 n2 (bounds_i64 w2).1 (bounds_i64 w2).2 a3 b3 x3 hx3 W).mono fun e W' ⟨he, hg⟩ => ?_
  subst he
  exact ⟨_, rfl, post_of_none hW' (fun _ _ _ => (trodAll_cons_mk (shut_bool Try.underlying4 _) trodAll_mk0)) (fun sp => (trodAll_cons_mk (shut_string Try.underlying9 w0) (trodAll_cons_mk (shut_int Try.underlying3 w1) (trodAll_cons_mk (shut_int Try.underlying3 w2) (trodAll_cons_mk (shut_word wa3 wb3) trodAll_mk0))))) (fun _ => rfl)
    hg.1 (ok_one (by kernel_rfl) rfl (okWide_bool_mk Try.underlying4 _))⟩

theorem fieldPuts_holds : Rows.FieldPutsSaid :=
  OpenClaim.holds_of_wide 5 Try.f5 rfl rfl rfl rfl rfl rfl rfl ⟨rfl, rfl, rfl, rfl, rfl⟩ rfl rfl rfl rfl rfl (by kernel_rfl) Try.func5 (by kernel_rfl)
    (of_decide_eq_true (by kernel_rfl)) (by unfold Func.isWrapper; first | (rw [if_pos (by decide +kernel)]; kernel_rfl) | (rw [if_neg (by decide +kernel)]; exact ⟨rfl, rfl⟩))
    (fun os started H enc _ => fieldPuts_lifted os started H enc)

#print axioms fieldPuts_holds

end Go.Proofs.Ytmlmamhcglpfeaa
