/- The law FieldTwo: a field is what its first bits are, that many places up, and its last ones. No condition. -/
import Derived.Test.YtmlmamhcglpfeaaFAwake
import Derived.Test.YtmlmamhcglpfeaaFrame
import Derived.Lib.Hide
import Derived.Deep.DeepCutAuto
import Derived.WalkLawsBesides
import Derived.WalkSpells
namespace Go.Proofs.Ytmlmamhcglpfeaa
set_option linter.unusedVariables false
open Go.ChangeShapes Go.WideShapes Go.ChangeAt Go.RowKit Go.Joins
open Go.ChangeMaps (open_string shut_string)

theorem fieldTwo_keep {V W w : World} {a0 a1 a2 a3 a4 a5 : Addr} {v0 v1 v2 v3 v4 v5 : Value} (g : Grown W w) (h : W.cell? a0 = some v0 ∧ W.cell? a1 = some v1 ∧ W.cell? a2 = some v2 ∧ W.cell? a3 = some v3 ∧ W.cell? a4 = some v4 ∧ W.cell? a5 = some v5 ∧ Hid (Wider V W)) :
    w.cell? a0 = some v0 ∧ w.cell? a1 = some v1 ∧ w.cell? a2 = some v2 ∧ w.cell? a3 = some v3 ∧ w.cell? a4 = some v4 ∧ w.cell? a5 = some v5 ∧ Hid (Wider V w) := ⟨gkeep g h.1, gkeep g h.2.1, gkeep g h.2.2.1, gkeep g h.2.2.2.1, gkeep g h.2.2.2.2.1, gkeep g h.2.2.2.2.2.1, hgrown h.2.2.2.2.2.2 g⟩

set_option maxHeartbeats 4000000 in
theorem fieldTwo_walk (s : ByteArray) (hm : s.size ≤ maxLen) (n1 : Int) (n1l : -9223372036854775808 ≤ n1) (n1h : n1 ≤ 9223372036854775807) (n2 : Int) (n2l : -9223372036854775808 ≤ n2) (n2h : n2 ≤ 9223372036854775807) (n3 : Int) (n3l : -9223372036854775808 ≤ n3) (n3h : n3 ≤ 9223372036854775807) (w : World) :
    Calls Try.prog 9 #[.string s, .int .i64 n1, .int .i64 n2, .int .i64 n3] w fun e w' => e = .returned (.bool true) ∧ Wider w w' := by
  unfold maxLen at hm
  have G : Hid (Wider w w) := Wider.refl w
  by_cases c0 : s.size ≤ 3000
  · by_cases c1 : n2 < 2
    · have d0 : decide (3000 < (s.size : Int)) = false := by simp; omega
      go_enter Try.func9, Try.ntmps9
      go_wp2_with (go_at_call 26; ((with_reducible refine (awake2_c _).mono ?_); rintro e wa ⟨rfl, g⟩; (with_reducible first | (replace G := htrans G g) | (replace G := htransA G g) | (replace G := htransAA G g)); clear g))
      go_ret
      exact ⟨rfl, G.out⟩
    · have d0 : decide (3000 < (s.size : Int)) = false := by simp; omega
      have d1 : decide (n2 < 2) = false := by simp; omega
      rcases errF_cases s.size n1 n2 with he | he
      · obtain ⟨o, m, rfl, rfl, m1, m2, m3⟩ := errF_ok he
        clear he
        obtain ⟨p, q, hp⟩ := isW_ex (fldW s o m)
        obtain ⟨N, hN, hN1, hN2⟩ : ∃ N : Nat, wrap64 (1 + wrap64 ((IntKind.u64.wrap n3).tmod ((m : Int) - 1))) = (N : Int) ∧ 1 ≤ N ∧ N < m := by
          have u0 : 0 ≤ IntKind.u64.wrap n3 := by rw [IntKind.wrap_u64]; omega
          rw [Int.tmod_eq_emod_of_nonneg u0]
          have v0 := Int.emod_nonneg (IntKind.u64.wrap n3) (show (m : Int) - 1 ≠ 0 by omega)
          have v1 := Int.emod_lt_of_pos (IntKind.u64.wrap n3) (show (0 : Int) < (m : Int) - 1 by omega)
          generalize IntKind.u64.wrap n3 % ((m : Int) - 1) = V at *
          have e1 : wrap64 V = V := by unfold wrap64; omega
          have e2 : wrap64 (1 + V) = 1 + V := by unfold wrap64; omega
          rw [e1, e2]
          exact ⟨(1 + V).toNat, by omega, by omega, by omega⟩
        obtain ⟨p2, q2, hp2⟩ := isW_ex (fldW s o N)
        obtain ⟨p3, q3, hp3⟩ := isW_ex (fldW s (o + N) (m - N))
        obtain ⟨p4, q4, hp4⟩ := isW_ex (fldW s o N <<< (m - N))
        have hor : IsW p q ((fldW s o N <<< (m - N)) ||| fldW s (o + N) (m - N)) := by
          rw [fldW_split s o N (m - N) (by omega), show N + (m - N) = m by omega]; exact hp
        have f0 : IntKind.i64.wrap ((m : Int) - (N : Int)) = (m : Int) - (N : Int) := IntWalk.i64_in _ (by omega)
        go_enter Try.func9, Try.ntmps9
        go_upto_region 7 with (first
          | (go_at_call 26; ((with_reducible refine (awake2_c _).mono ?_); rintro e wa ⟨rfl, g⟩; (with_reducible first | (replace G := htrans G g) | (replace G := htransA G g) | (replace G := htransAA G g)); clear g))
          | (go_at_call 27; ((with_reducible refine (get_c s o m (by omega) m1 m2 m3 hp _).mono ?_); rintro e w1 ⟨rfl, g⟩; replace G := hgrown G g; clear g; obtain ⟨k0, k1, _, _⟩ := new2 w1 (.int .u64 p) (.int .u64 q) 24; replace G := halloc2 G (.cells #[.int .u64 p, .int .u64 q] 24))))
        simp only [hN]
        clear hN
        go_upto_region 9 with (first
          | (go_at_call 27; ((with_reducible refine (get_i s _ _ o N (by omega) (by omega) (by omega) (by omega) (by omega) (by omega) hp2 _).mono ?_); rintro e w2 ⟨rfl, g⟩; replace G := hgrown G g; replace k0 := gkeep g k0; replace k1 := gkeep g k1; clear g; obtain ⟨k2, k3, _, _⟩ := new2 w2 (.int .u64 p2) (.int .u64 q2) 24; replace k0 := kalloc (o := .cells #[.int .u64 p2, .int .u64 q2] 24) k0; replace k1 := kalloc (o := .cells #[.int .u64 p2, .int .u64 q2] 24) k1; replace G := halloc2 G (.cells #[.int .u64 p2, .int .u64 q2] 24)))
          | (go_at_call 27; ((with_reducible refine (get_i s _ _ (o + N) (m - N) (by omega) (by omega) (by omega) (by omega) (by omega) (by omega) hp3 _).mono ?_); rintro e w3 ⟨rfl, g⟩; replace G := hgrown G g; replace k0 := gkeep g k0; replace k1 := gkeep g k1; replace k2 := gkeep g k2; replace k3 := gkeep g k3; clear g; obtain ⟨k4, k5, _, _⟩ := new2 w3 (.int .u64 p3) (.int .u64 q3) 24; replace k0 := kalloc (o := .cells #[.int .u64 p3, .int .u64 q3] 24) k0; replace k1 := kalloc (o := .cells #[.int .u64 p3, .int .u64 q3] 24) k1; replace k2 := kalloc (o := .cells #[.int .u64 p3, .int .u64 q3] 24) k2; replace k3 := kalloc (o := .cells #[.int .u64 p3, .int .u64 q3] 24) k3; replace G := halloc2 G (.cells #[.int .u64 p3, .int .u64 q3] 24))))
        go_region_held3 (fun w' => w'.cell? ⟨w1.heap.size, 0, none⟩ = some (.int .u64 p) ∧ w'.cell? ⟨w1.heap.size, 1, none⟩ = some (.int .u64 q) ∧ w'.cell? ⟨w2.heap.size, 0, none⟩ = some (.int .u64 p2) ∧ w'.cell? ⟨w2.heap.size, 1, none⟩ = some (.int .u64 q2) ∧ w'.cell? ⟨w3.heap.size, 0, none⟩ = some (.int .u64 p3) ∧ w'.cell? ⟨w3.heap.size, 1, none⟩ = some (.int .u64 q3) ∧ Hid (Wider w w')) (first | assumption | exact ⟨k0, k1, k2, k3, k4, k5, G⟩ | exact fieldTwo_keep (by assumption) (by assumption))
          (first
            | (go_at_call 14; ((with_reducible refine (left_c _ ((m : Int) - (N : Int)) (by omega) (by omega) hp2 (by rw [show ((m : Int) - (N : Int)).toNat = m - N by omega]; exact hp4) _).mono ?_); rintro e w' ⟨rfl, g'⟩))
            | (go_at_call 40; ((with_reducible refine (or_c _ _ hp4 hp3 hor _).mono ?_); rintro e w' ⟨rfl, g'⟩)))
        have HG : Hid (Wider w w') := by
          have h := ‹_ ∧ _ ∧ _ ∧ _ ∧ _ ∧ _ ∧ Hid (Wider w w')›
          exact h.2.2.2.2.2.2
        go_wp2
        go_ret
        exact ⟨rfl, HG.out⟩
      · have he2 : (errF s.size n1 n2 != 0) = true := by rcases he with e | e <;> rw [e] <;> rfl
        obtain ⟨r, hr⟩ : ∃ r : Int, errF s.size n1 n2 = r := ⟨_, rfl⟩
        rw [hr] at he2
        clear he
        go_enter Try.func9, Try.ntmps9
        go_wp2_with (first
          | (go_at_call 26; ((with_reducible refine (awake2_c _).mono ?_); rintro e wa ⟨rfl, g⟩; (with_reducible first | (replace G := htrans G g) | (replace G := htransA G g) | (replace G := htransAA G g)); clear g))
          | (go_at_call 27; ((with_reducible refine (get_bad s n1 n2 (by omega) n1l n1h n2l n2h hr he2 _).mono ?_); rintro e w1 ⟨rfl, g⟩; replace G := hgrown G g; clear g)))
        go_ret
        exact ⟨rfl, (G.out.alloc _)⟩
  · have d0 : decide (3000 < (s.size : Int)) = true := by simp; omega
    go_enter Try.func9, Try.ntmps9
    go_wp2_with (go_at_call 26; ((with_reducible refine (awake2_c _).mono ?_); rintro e wa ⟨rfl, g⟩; (with_reducible first | (replace G := htrans G g) | (replace G := htransA G g) | (replace G := htransAA G g)); clear g))
    go_ret
    exact ⟨rfl, G.out⟩

set_option maxRecDepth 100000 in
theorem fieldTwo_lifted (os : Os) (started : os.Started) (H : Type) (enc : TypeId × Value → H) :
    ReturnsInHanded {} Try.checked os 9 .any (Rows.fieldTwoSpec.pre6 enc Try.prog Try.f9 Rows.fieldTwoRow.domain false) (Rows.fieldTwoSpec.post enc Try.prog Try.f9 false true false false) := by
  refine returnsInHanded_of_change (C := Try.checked) own started (by kernel_rfl) Try.func9
    (ChangeSpec.witness6 (enc := enc) (C := Try.checked) false ⟨#[], #[.string ⟨#[]⟩, .int .i64 0, .int .i64 0, .int .i64 0], []⟩ 8 (by kernel_rfl) (by kernel_rfl) (by kernel_rfl) (by kernel_rfl)) ?_
  intro W base args ds gs before hval0 hW hcnd _
  have hval : ∀ (j : Nat) t v, Try.f9.params[j]? = some t → args[j]? = some v → Value.okWide Try.prog W .any base t v := hval0
  have hW' := hW
  obtain ⟨p, q, hA0, hV, rfl, hfz, hnd⟩ := hW
  have hA : DataW.TrodAll enc Try.prog W 0 (fun _ => true) true Try.f9.params.toList args.toList ds p := hA0
  rw [Try.params9] at hA hval
  obtain ⟨v0, vs0, d0, ds0, p0, q0, hargs, rfl, rfl, h0, r0⟩ := trodAll_cons hA
  obtain ⟨v1, vs1, d1, ds1, p1, q1, rfl, rfl, rfl, h1, r1⟩ := trodAll_cons r0
  obtain ⟨v2, vs2, d2, ds2, p2, q2, rfl, rfl, rfl, h2, r2⟩ := trodAll_cons r1
  obtain ⟨v3, vs3, d3, ds3, p3, q3, rfl, rfl, rfl, h3, r3⟩ := trodAll_cons r2
  obtain ⟨rfl, rfl, rfl⟩ := trodAll_nil r3
  obtain rfl : args = #[v0, v1, v2, v3] := by cases args; simp_all
  obtain ⟨rfl, rfl⟩ := trodVars_none hV
  obtain ⟨s0, rfl, rfl, rfl, w0⟩ := open_string Try.underlying9 (hval 0 9 v0 rfl rfl) h0
  obtain ⟨n1, rfl, rfl, rfl, w1⟩ := open_int Try.underlying3 (hval 1 3 v1 rfl rfl) h1
  obtain ⟨n2, rfl, rfl, rfl, w2⟩ := open_int Try.underlying3 (hval 2 3 v2 rfl rfl) h2
  obtain ⟨n3, rfl, rfl, rfl, w3⟩ := open_int Try.underlying3 (hval 3 3 v3 rfl rfl) h3
  clear hA0 hval0
  simp only [List.append_nil] at hW'
  refine (fieldTwo_walk s0 w0 n1 (bounds_i64 w1).1 (bounds_i64 w1).2 n2 (bounds_i64 w2).1 (bounds_i64 w2).2 n3 (bounds_i64 w3).1 (bounds_i64 w3).2 W).mono fun e W' ⟨he, hg⟩ => ?_
  subst he
  exact ⟨_, rfl, post_of_none hW' (fun _ _ _ => (trodAll_cons_mk (shut_bool Try.underlying4 _) trodAll_mk0)) (fun sp => (trodAll_cons_mk (shut_string Try.underlying9 w0) (trodAll_cons_mk (shut_int Try.underlying3 w1) (trodAll_cons_mk (shut_int Try.underlying3 w2) (trodAll_cons_mk (shut_int Try.underlying3 w3) trodAll_mk0))))) (fun _ => rfl)
    hg.1 (ok_one (by kernel_rfl) rfl (okWide_bool_mk Try.underlying4 _))⟩

theorem fieldTwo_holds : Rows.FieldTwoSaid :=
  OpenClaim.holds_of_wide 9 Try.f9 rfl rfl rfl rfl rfl rfl rfl ⟨rfl, rfl, rfl, rfl, rfl⟩ rfl rfl rfl rfl rfl (by kernel_rfl) Try.func9 (by kernel_rfl)
    (of_decide_eq_true (by kernel_rfl)) (by unfold Func.isWrapper; first | (rw [if_pos (by decide +kernel)]; kernel_rfl) | (rw [if_neg (by decide +kernel)]; exact ⟨rfl, rfl⟩))
    (fun os started H enc _ => fieldTwo_lifted os started H enc)

#print axioms fieldTwo_holds

end Go.Proofs.Ytmlmamhcglpfeaa
