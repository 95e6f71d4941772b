/- The law FieldBack: Get of Put is the number's lowest bits; all other bits stay, and so does the length. No condition. -/
import Derived.Test.YtmlmamhcglpfeaaFAwake
import Derived.Test.YtmlmamhcglpfeaaFrame
import Derived.Test.YtmlmamhcglpfeaaFAny
import Derived.Lib.Hide
import Derived.Deep.DeepCutAuto
import Derived.WalkLawsBesides
import Derived.WalkSpells
namespace Go.Proofs.Ytmlmamhcglpfeaa
set_option linter.unusedVariables false
open Go.ChangeShapes Go.WideShapes Go.ChangeAt Go.RowKit Go.Joins
open Go.ChangeMaps (open_string shut_string)

theorem fieldBack_keep {V W w : World} {a0 a1 a2 a3 : Addr} {v0 v1 v2 v3 : Value} (g : Grown W w) (h : W.cell? a0 = some v0 ∧ W.cell? a1 = some v1 ∧ W.cell? a2 = some v2 ∧ W.cell? a3 = some v3 ∧ Hid (Wider V W)) :
    w.cell? a0 = some v0 ∧ w.cell? a1 = some v1 ∧ w.cell? a2 = some v2 ∧ w.cell? a3 = some v3 ∧ Hid (Wider V w) := ⟨gkeep g h.1, gkeep g h.2.1, gkeep g h.2.2.1, gkeep g h.2.2.2.1, hgrown h.2.2.2.2 g⟩
theorem bit_word2 (s : ByteArray) (k : Nat) : IsW 0 ((bitS s k : Nat) : Int) (fldW s k 1) := by
  have e : fldW s k 1 = BitVec.ofNat 128 (bitS s k) := by unfold fldW fldN fldN; simp
  rw [e]; exact isW_bit (bitS_le s k)

set_option maxHeartbeats 8000000 in
theorem fieldBack_ok (s : ByteArray) (o m : Nat) (a3 b3 : Int) (x3 : BitVec 128) (hx3 : IsW a3 b3 x3) (n4 : Int) (n4l : -9223372036854775808 ≤ n4) (n4h : n4 ≤ 9223372036854775807) (h0 : s.size ≤ 3000) (m1 : 1 ≤ m) (m2 : m ≤ 128) (m3 : o + m ≤ 8 * s.size) (w : World) :
    Calls Try.prog 8 #[.string s, .int .i64 (o : Int), .int .i64 (m : Int), .agg #[.int .u64 a3, .int .u64 b3], .int .i64 n4] w fun e w' => e = .returned (.bool true) ∧ Wider w w' := by
  have G : Hid (Wider w w) := Wider.refl w
  have d0 : decide (3000 < (s.size : Int)) = false := by simp; omega
  obtain ⟨T, hT⟩ : ∃ T : ByteArray, putT s o m x3 = T := ⟨_, rfl⟩
  have hTs : T.size = s.size := by rw [← hT, putT_size]
  obtain ⟨p, q, hp⟩ := isW_ex (x3 &&& mask (m : Int).toNat)
  have hp2 : IsW p q (fldW T o m) := by rw [← hT, fld_put s o m x3 m3 m2]; rw [Int.toNat_natCast] at hp; exact hp
  obtain ⟨A, hA, hA1⟩ : ∃ A : Nat, wrap64 ((IntKind.u64.wrap n4).tmod (8 * (s.size : Int))) = (A : Int) ∧ A < 8 * s.size := by
    have u0 : 0 ≤ IntKind.u64.wrap n4 := by rw [IntKind.wrap_u64]; omega
    rw [Int.tmod_eq_emod_of_nonneg u0]
    have v0 := Int.emod_nonneg (IntKind.u64.wrap n4) (show 8 * (s.size : Int) ≠ 0 by omega)
    have v1 := Int.emod_lt_of_pos (IntKind.u64.wrap n4) (show (0 : Int) < 8 * (s.size : Int) by omega)
    generalize IntKind.u64.wrap n4 % (8 * (s.size : Int)) = V at *
    have e1 : wrap64 V = V := by unfold wrap64; omega
    rw [e1]
    exact ⟨V.toNat, by omega, by omega⟩
  have hb1 := bit_word2 s A
  have hb2 := bit_word2 T A
  have hB : bitS T A = putB s o m x3 m A := by rw [← hT]; exact bitS_put s o m x3 A hA1
  have hcs : (((bitS s A : Nat) : Int) == ((bitS T A : Nat) : Int)) = true ∨ ((((bitS s A : Nat) : Int) == ((bitS T A : Nat) : Int)) = false ∧ decide (o ≤ A) = true ∧ decide ((A : Int) < (o : Int) + (m : Int)) = true) := by
    by_cases e : bitS s A = bitS T A
    · exact .inl (by simp [e])
    · refine .inr ⟨by simp; omega, ?_⟩
      unfold putB at hB
      by_cases c : o ≤ A ∧ A < o + m
      · constructor <;> simp <;> omega
      · rw [if_neg c] at hB; exact absurd hB.symm e
  obtain ⟨b1, hB1⟩ : ∃ b1 : Int, ((bitS s A : Nat) : Int) = b1 := ⟨_, rfl⟩
  obtain ⟨b2, hB2⟩ : ∃ b2 : Int, ((bitS T A : Nat) : Int) = b2 := ⟨_, rfl⟩
  rw [hB1] at hb1 hcs
  rw [hB2] at hb2 hcs
  have HC := Lib.hid hcs
  have HT := Lib.hid hT
  clear hB1 hB2 hB hcs hT
  have k0 : (w.alloc (.cells #[.int .u64 a3, .int .u64 b3] 24)).cell? ⟨w.heap.size, 0, none⟩ = some (.int .u64 a3) := by simp [go_sem]
  have k1 : (w.alloc (.cells #[.int .u64 a3, .int .u64 b3] 24)).cell? ⟨w.heap.size, 1, none⟩ = some (.int .u64 b3) := by simp [go_sem]
  replace G := halloc2 G (.cells #[.int .u64 a3, .int .u64 b3] 24)
  go_enter Try.func8, Try.ntmps8
  go_upto_region 7 with (first
    | (go_at_call 26; ((with_reducible refine (awake2_c _).mono ?_); rintro e wa ⟨rfl, g⟩; replace k0 := wkeep g k0; replace k1 := wkeep g k1; replace G := htrans G g; clear g))
    | (go_at_call 29; ((with_reducible refine (put_c s o m x3 (by omega) m1 m2 m3 hx3 HT.out _).mono ?_); rintro e w1 ⟨rfl, g⟩; replace k0 := wkeep g k0; replace k1 := wkeep g k1; replace G := htrans G g; clear g))
    | (go_at_call 27; ((with_reducible refine (get_c T o m (by omega) m1 m2 (by omega) hp2 _).mono ?_); rintro e w2 ⟨rfl, g⟩; replace G := hgrown G g; replace k0 := gkeep g k0; replace k1 := gkeep g k1; clear g; obtain ⟨k2, k3, _, _⟩ := new2 w2 (.int .u64 p) (.int .u64 q) 24; replace k0 := kalloc (o := .cells #[.int .u64 p, .int .u64 q] 24) k0; replace k1 := kalloc (o := .cells #[.int .u64 p, .int .u64 q] 24) k1; replace G := halloc2 G (.cells #[.int .u64 p, .int .u64 q] 24))))
  go_region_held3 (fun w' => w'.cell? ⟨w.heap.size, 0, none⟩ = some (.int .u64 a3) ∧ w'.cell? ⟨w.heap.size, 1, none⟩ = some (.int .u64 b3) ∧ w'.cell? ⟨w2.heap.size, 0, none⟩ = some (.int .u64 p) ∧ w'.cell? ⟨w2.heap.size, 1, none⟩ = some (.int .u64 q) ∧ Hid (Wider w w')) (first | assumption | exact ⟨k0, k1, k2, k3, G⟩ | exact fieldBack_keep (by assumption) (by assumption))
    ((go_at_call 22; ((with_reducible refine (cut_c x3 (m : Int) (by omega) (by omega) hx3 hp _).mono ?_); rintro e w' ⟨rfl, g'⟩)))
  have HG : Hid (Wider w w') := by
    have h := ‹_ ∧ _ ∧ _ ∧ _ ∧ Hid (Wider w w')›
    exact h.2.2.2.2
  clear k0 k1 k2 k3 G
  go_upto_region 10 with fail
  simp only [hA]
  clear hA
  have G := HG
  clear HG
  go_upto_region 12 with (first
    | (go_at_call 27; ((with_reducible refine (get_i s _ _ A 1 (by omega) (by omega) (by omega) (by omega) (by omega) (by omega) hb1 _).mono ?_); rintro e w3 ⟨rfl, g⟩; replace G := hgrown G g; clear g; obtain ⟨j0, j1, _, _⟩ := new2 w3 (.int .u64 0) (.int .u64 b1) 24; replace G := halloc2 G (.cells #[.int .u64 0, .int .u64 b1] 24)))
    | (go_at_call 27; ((with_reducible refine (get_i T _ _ A 1 (by omega) (by omega) (by omega) (by omega) (by omega) (by omega) hb2 _).mono ?_); rintro e w4 ⟨rfl, g⟩; replace G := hgrown G g; replace j0 := gkeep g j0; replace j1 := gkeep g j1; clear g; obtain ⟨j2, j3, _, _⟩ := new2 w4 (.int .u64 0) (.int .u64 b2) 24; replace j0 := kalloc (o := .cells #[.int .u64 0, .int .u64 b2] 24) j0; replace j1 := kalloc (o := .cells #[.int .u64 0, .int .u64 b2] 24) j1; replace G := halloc2 G (.cells #[.int .u64 0, .int .u64 b2] 24))))
  rcases HC.out with r1 | ⟨r1, r2, r3⟩
  all_goals
    go_wp2
    go_ret
    exact ⟨rfl, G.out⟩

set_option maxHeartbeats 4000000 in
theorem fieldBack_walk (s : ByteArray) (hm : s.size ≤ maxLen) (n1 : Int) (n1l : -9223372036854775808 ≤ n1) (n1h : n1 ≤ 9223372036854775807) (n2 : Int) (n2l : -9223372036854775808 ≤ n2) (n2h : n2 ≤ 9223372036854775807) (a3 b3 : Int) (x3 : BitVec 128) (hx3 : IsW a3 b3 x3) (n4 : Int) (n4l : -9223372036854775808 ≤ n4) (n4h : n4 ≤ 9223372036854775807) (w : World) :
    Calls Try.prog 8 #[.string s, .int .i64 n1, .int .i64 n2, .agg #[.int .u64 a3, .int .u64 b3], .int .i64 n4] w fun e w' => e = .returned (.bool true) ∧ Wider w w' := by
  unfold maxLen at hm
  have G : Hid (Wider w w) := Wider.refl w
  by_cases h0 : s.size ≤ 3000
  · obtain ⟨T, r, hR⟩ := putR_ex s n1 n2 x3
    by_cases e : r = 0
    · obtain ⟨o, m, rfl, rfl, m1, m2, m3⟩ := errF_ok (hR.err.trans e)
      exact fieldBack_ok s o m a3 b3 x3 hx3 n4 n4l n4h h0 m1 m2 m3 w
    · have d0 : decide (3000 < (s.size : Int)) = false := by simp; omega
      have he : (r != 0) = true := by simpa using e
      have hT := hR.bad e
      subst hT
      have k0 : (w.alloc (.cells #[.int .u64 a3, .int .u64 b3] 24)).cell? ⟨w.heap.size, 0, none⟩ = some (.int .u64 a3) := by simp [go_sem]
      have k1 : (w.alloc (.cells #[.int .u64 a3, .int .u64 b3] 24)).cell? ⟨w.heap.size, 1, none⟩ = some (.int .u64 b3) := by simp [go_sem]
      replace G := halloc2 G (.cells #[.int .u64 a3, .int .u64 b3] 24)
      clear e
      go_enter Try.func8, Try.ntmps8
      go_wp2_with (first
        | (go_at_call 26; ((with_reducible refine (awake2_c _).mono ?_); rintro e wa ⟨rfl, g⟩; replace k0 := wkeep g k0; replace k1 := wkeep g k1; replace G := htrans G g; clear g))
        | (go_at_call 29; ((with_reducible refine (put_g s n1 n2 x3 (by omega) n1l n1h n2l n2h hx3 hR _).mono ?_); rintro e w1 ⟨rfl, g⟩; replace G := htrans G g; clear g)))
      go_ret
      exact ⟨rfl, G.out⟩
  · have d0 : decide (3000 < (s.size : Int)) = true := by simp; omega
    go_enter Try.func8, Try.ntmps8
    go_wp2_with (go_at_call 26; ((with_reducible refine (awake2_c _).mono ?_); rintro e wa ⟨rfl, g⟩; (with_reducible first | (replace G := htrans G g) | (replace G := htransA G g) | (replace G := htransAA G g)); clear g))
    go_ret
    exact ⟨rfl, G.out⟩

set_option maxRecDepth 100000 in
theorem fieldBack_lifted (os : Os) (started : os.Started) (H : Type) (enc : TypeId × Value → H) :
    ReturnsInHanded {} Try.checked os 8 .any (Rows.fieldBackSpec.pre6 enc Try.prog Try.f8 Rows.fieldBackRow.domain false) (Rows.fieldBackSpec.post enc Try.prog Try.f8 false true false false) := by
  refine returnsInHanded_of_change (C := Try.checked) own started (by kernel_rfl) Try.func8
    (ChangeSpec.witness6 (enc := enc) (C := Try.checked) false ⟨#[], #[.string ⟨#[]⟩, .int .i64 0, .int .i64 0, .agg #[.int .u64 0, .int .u64 0], .int .i64 0], []⟩ 8 (by kernel_rfl) (by kernel_rfl) (by kernel_rfl) (by kernel_rfl)) ?_
  intro W base args ds gs before hval0 hW hcnd _
  have hval : ∀ (j : Nat) t v, Try.f8.params[j]? = some t → args[j]? = some v → Value.okWide Try.prog W .any base t v := hval0
  have hW' := hW
  obtain ⟨p, q, hA0, hV, rfl, hfz, hnd⟩ := hW
  have hA : DataW.TrodAll enc Try.prog W 0 (fun _ => true) true Try.f8.params.toList args.toList ds p := hA0
  rw [Try.params8] at hA hval
  obtain ⟨v0, vs0, d0, ds0, p0, q0, hargs, rfl, rfl, h0, r0⟩ := trodAll_cons hA
  obtain ⟨v1, vs1, d1, ds1, p1, q1, rfl, rfl, rfl, h1, r1⟩ := trodAll_cons r0
  obtain ⟨v2, vs2, d2, ds2, p2, q2, rfl, rfl, rfl, h2, r2⟩ := trodAll_cons r1
  obtain ⟨v3, vs3, d3, ds3, p3, q3, rfl, rfl, rfl, h3, r3⟩ := trodAll_cons r2
  obtain ⟨v4, vs4, d4, ds4, p4, q4, rfl, rfl, rfl, h4, r4⟩ := trodAll_cons r3
  obtain ⟨rfl, rfl, rfl⟩ := trodAll_nil r4
  obtain rfl : args = #[v0, v1, v2, v3, v4] := by cases args; simp_all
  obtain ⟨rfl, rfl⟩ := trodVars_none hV
  obtain ⟨s0, rfl, rfl, rfl, w0⟩ := open_string Try.underlying9 (hval 0 9 v0 rfl rfl) h0
  obtain ⟨n1, rfl, rfl, rfl, w1⟩ := open_int Try.underlying3 (hval 1 3 v1 rfl rfl) h1
  obtain ⟨n2, rfl, rfl, rfl, w2⟩ := open_int Try.underlying3 (hval 2 3 v2 rfl rfl) h2
  obtain ⟨a3, b3, rfl, rfl, rfl, wa3, wb3⟩ := open_word (hval 3 24 v3 rfl rfl) h3
  obtain ⟨x3, hx3⟩ := word_in wa3 wb3
  obtain ⟨n4, rfl, rfl, rfl, w4⟩ := open_int Try.underlying3 (hval 4 3 v4 rfl rfl) h4
  clear hA0 hval0
  simp only [List.append_nil] at hW'
  refine (fieldBack_walk s0 w0 n1 (bounds_i64 w1).1 (bounds_i64 w1).2 n2 (bounds_i64 w2).1 (bounds_i64 w2).2 a3 b3 x3 hx3 n4 (bounds_i64 w4).1 (bounds_i64 w4).2 W).mono fun e W' ⟨he, hg⟩ => ?_
  subst he
  exact ⟨_, rfl, post_of_none hW' (fun _ _ _ => (trodAll_cons_mk (shut_bool Try.underlying4 _) trodAll_mk0)) (fun sp => (trodAll_cons_mk (shut_string Try.underlying9 w0) (trodAll_cons_mk (shut_int Try.underlying3 w1) (trodAll_cons_mk (shut_int Try.underlying3 w2) (trodAll_cons_mk (shut_word wa3 wb3) (trodAll_cons_mk (shut_int Try.underlying3 w4) trodAll_mk0)))))) (fun _ => rfl)
    hg.1 (ok_one (by kernel_rfl) rfl (okWide_bool_mk Try.underlying4 _))⟩

theorem fieldBack_holds : Rows.FieldBackSaid :=
  OpenClaim.holds_of_wide 8 Try.f8 rfl rfl rfl rfl rfl rfl rfl ⟨rfl, rfl, rfl, rfl, rfl⟩ rfl rfl rfl rfl rfl (by kernel_rfl) Try.func8 (by kernel_rfl)
    (of_decide_eq_true (by kernel_rfl)) (by unfold Func.isWrapper; first | (rw [if_pos (by decide +kernel)]; kernel_rfl) | (rw [if_neg (by decide +kernel)]; exact ⟨rfl, rfl⟩))
    (fun os started H enc _ => fieldBack_lifted os started H enc)

#print axioms fieldBack_holds

end Go.Proofs.Ytmlmamhcglpfeaa
