/- The law FieldFirst: at least n first bits of two texts are alike just if the fields of n bits at 0 are; the next bit of both, if there is one, is not. No condition. -/
import Derived.Test.YtmlmamhcglpfeaaFAwake
import Derived.Test.YtmlmamhcglpfeaaFrame
import Derived.Test.YtmlmamhcglpfeaaFAny
import Derived.Lib.Hide
import Derived.Deep.DeepCutAuto
import Derived.WalkLawsBesides
import Derived.WalkSpells
namespace Go.Proofs.Ytmlmamhcglpfeaa
set_option linter.unusedVariables false
open Go.ChangeShapes Go.WideShapes Go.ChangeAt Go.RowKit Go.Joins
open Go.ChangeMaps (open_string shut_string)

theorem bit_word (s : ByteArray) (k : Nat) : IsW 0 ((bitS s k : Nat) : Int) (fldW s k 1) := by
  have e : fldW s k 1 = BitVec.ofNat 128 (bitS s k) := by unfold fldW fldN fldN; simp
  rw [e]; exact isW_bit (bitS_le s k)
/-- How the last answer comes about. -/
def Ends (k N : Nat) (p q e p2 q2 f : Int) : Prop :=
  (e != 0) = true ∨ ((e != 0) = false ∧ (f != 0) = true) ∨ ((e != 0) = false ∧ (f != 0) = false ∧ (p == p2) = true ∧ (q == q2) = true ∧ decide (N ≤ k) = true) ∨
  ((e != 0) = false ∧ (f != 0) = false ∧ (p == p2) = false ∧ decide (N ≤ k) = false) ∨ ((e != 0) = false ∧ (f != 0) = false ∧ (p == p2) = true ∧ (q == q2) = false ∧ decide (N ≤ k) = false)
theorem ends_of {s t : ByteArray} {k N : Nat} {p q e p2 q2 f : Int} (hk : IsPre s t k) (hN : N ≤ 128) (h1 : GetR s 0 (N : Int) p q e) (h2 : GetR t 0 (N : Int) p2 q2 f) : Ends k N p q e p2 q2 f := by
  unfold Ends
  by_cases ce : e = 0
  · subst ce
    by_cases cf : f = 0
    · subst cf
      have a := h1.ok rfl
      have b := h2.ok rfl
      obtain ⟨o1, m1, ho1, hm1, _, _, g1⟩ := errF_ok h1.err
      obtain ⟨o2, m2, ho2, hm2, _, _, g2⟩ := errF_ok h2.err
      rw [Int.toNat_natCast] at a b
      have z : (0 : Int).toNat = 0 := rfl
      rw [z] at a b
      have q3 := fld_pre hk N hN (by omega) (by omega)
      have j : fldW s 0 N = fldW t 0 N ↔ p = p2 ∧ q = q2 := ⟨fun x => ⟨by rw [a.h, b.h, x], by rw [a.l, b.l, x]⟩, fun ⟨x, y⟩ => a.inj b x y⟩
      rw [j] at q3
      by_cases c1 : N ≤ k
      · obtain ⟨rfl, rfl⟩ := q3.2 c1
        exact .inr (.inr (.inl ⟨rfl, rfl, by simp, by simp, decide_eq_true (by omega)⟩))
      · have nq : ¬ (p = p2 ∧ q = q2) := fun x => c1 (q3.1 x)
        by_cases c2 : p = p2
        · exact .inr (.inr (.inr (.inr ⟨rfl, rfl, by simpa using c2, by simpa using fun y => nq ⟨c2, y⟩, decide_eq_false (by omega)⟩)))
        · exact .inr (.inr (.inr (.inl ⟨rfl, rfl, by simpa using c2, decide_eq_false (by omega)⟩)))
    · exact .inr (.inl ⟨rfl, by simpa using cf⟩)
  · exact .inl (by simpa using ce)

set_option maxHeartbeats 8000000 in
theorem fieldFirst_A (s t : ByteArray) (n2 : Int) (n2l : -9223372036854775808 ≤ n2) (n2h : n2 ≤ 9223372036854775807) (h0 : s.size ≤ 2000) (h1 : t.size ≤ 2000) (k : Nat) (hk : IsPre s t k) (hc : k < 8 * min s.size t.size) (w : World) :
    Calls Try.prog 12 #[.string s, .string t, .int .i64 n2] w fun e w' => e = .returned (.bool true) ∧ Wider w w' := by
  have G : Hid (Wider w w) := Wider.refl w
  have d0 : decide (2000 < (s.size : Int)) = false := decide_eq_false (by omega)
  have d1 : decide (2000 < (t.size : Int)) = false := decide_eq_false (by omega)
  obtain ⟨N, hN, hN1, hN2⟩ : ∃ N : Nat, wrap64 (1 + wrap64 ((IntKind.u64.wrap n2).tmod 128)) = (N : Int) ∧ 1 ≤ N ∧ N ≤ 128 := by
    have u0 : 0 ≤ IntKind.u64.wrap n2 := by rw [IntKind.wrap_u64]; omega
    rw [Int.tmod_eq_emod_of_nonneg u0]
    generalize IntKind.u64.wrap n2 = V at *
    have e1 : wrap64 (V % 128) = V % 128 := by unfold wrap64; omega
    have e2 : wrap64 (1 + V % 128) = 1 + V % 128 := by unfold wrap64; omega
    rw [e1, e2]
    exact ⟨(1 + V % 128).toNat, by omega, by omega, by omega⟩
  obtain ⟨p, q, e1, hp⟩ := getR_ex s 0 (N : Int)
  obtain ⟨p2, q2, e2, hp2⟩ := getR_ex t 0 (N : Int)
  have HE := Lib.hid (ends_of hk hN2 hp hp2)
  have k8 := hk.le
  have g1 : ((k : Int) != (k : Int)) = false := by simp
  have g2 : decide ((k : Int) < 0) = false := decide_eq_false (by omega)
  have g3 : decide (8 * min (s.size : Int) (t.size : Int) < (k : Int)) = false := decide_eq_false (by omega)
  have hl : (k : Int) < 8 * min (s.size : Int) (t.size : Int) := by omega
  have hb1 := bit_word s k
  have hb2 := bit_word t k
  have hne := hk.last (by omega)
  obtain ⟨b1, hB1⟩ : ∃ b1 : Int, ((bitS s k : Nat) : Int) = b1 := ⟨_, rfl⟩
  obtain ⟨b2, hB2⟩ : ∃ b2 : Int, ((bitS t k : Nat) : Int) = b2 := ⟨_, rfl⟩
  have hbb : (b1 == b2) = false := by simp; omega
  rw [hB1] at hb1
  rw [hB2] at hb2
  clear hB1 hB2 hne
  go_enter Try.func12, Try.ntmps12
  go_upto_region 12 with (first
    | (go_at_call 26; ((with_reducible refine (awake2_c _).mono ?_); rintro e wa ⟨rfl, g⟩; (with_reducible first | (replace G := htrans G g) | (replace G := htransA G g) | (replace G := htransAA G g)); clear g))
    | (go_at_call 37; ((with_reducible refine (prefix_c s t (by omega) (by omega) hk _).mono ?_); rintro e w1 ⟨rfl, g⟩; replace G := hgrown G g; clear g))
    | (go_at_call 37; ((with_reducible refine (prefix_c t s (by omega) (by omega) hk.symm _).mono ?_); rintro e w2 ⟨rfl, g⟩; replace G := hgrown G g; clear g))
    | (go_at_call 27; ((with_reducible refine (get_i s _ _ k 1 (by omega) (by omega) (by omega) (by omega) (by omega) (by omega) hb1 _).mono ?_); rintro e w3 ⟨rfl, g⟩; replace G := hgrown G g; clear g; obtain ⟨j0, j1, _, _⟩ := new2 w3 (.int .u64 0) (.int .u64 b1) 24; replace G := halloc2 G (.cells #[.int .u64 0, .int .u64 b1] 24)))
    | (go_at_call 27; ((with_reducible refine (get_i t _ _ k 1 (by omega) (by omega) (by omega) (by omega) (by omega) (by omega) hb2 _).mono ?_); rintro e w4 ⟨rfl, g⟩; replace G := hgrown G g; replace j0 := gkeep g j0; replace j1 := gkeep g j1; clear g; obtain ⟨j2, j3, _, _⟩ := new2 w4 (.int .u64 0) (.int .u64 b2) 24; replace j0 := kalloc (o := .cells #[.int .u64 0, .int .u64 b2] 24) j0; replace j1 := kalloc (o := .cells #[.int .u64 0, .int .u64 b2] 24) j1; replace G := halloc2 G (.cells #[.int .u64 0, .int .u64 b2] 24))))
  simp only [hN]
  clear hN
  go_upto_region 14 with (first
    | (go_at_call 27; ((with_reducible refine (get_g s 0 (N : Int) (by omega) (by omega) (by omega) (by omega) (by omega) hp _).mono ?_); rintro e w5 ⟨rfl, g⟩; replace G := hgrown G g; clear g; obtain ⟨k0, k1, _, _⟩ := new2 w5 (.int .u64 p) (.int .u64 q) 24; replace G := halloc2 G (.cells #[.int .u64 p, .int .u64 q] 24)))
    | (go_at_call 27; ((with_reducible refine (get_g t 0 (N : Int) (by omega) (by omega) (by omega) (by omega) (by omega) hp2 _).mono ?_); rintro e w6 ⟨rfl, g⟩; replace G := hgrown G g; replace k0 := gkeep g k0; replace k1 := gkeep g k1; clear g; obtain ⟨k2, k3, _, _⟩ := new2 w6 (.int .u64 p2) (.int .u64 q2) 24; replace k0 := kalloc (o := .cells #[.int .u64 p2, .int .u64 q2] 24) k0; replace k1 := kalloc (o := .cells #[.int .u64 p2, .int .u64 q2] 24) k1; replace G := halloc2 G (.cells #[.int .u64 p2, .int .u64 q2] 24))))
  have HE2 := HE.out
  clear HE
  unfold Ends at HE2
  rcases HE2 with r1 | ⟨r1, r2⟩ | ⟨r1, r2, r3, r4, r5⟩ | ⟨r1, r2, r3, r5⟩ | ⟨r1, r2, r3, r4, r5⟩
  all_goals
    go_wp2
    go_ret
    exact ⟨rfl, G.out⟩

set_option maxHeartbeats 8000000 in
theorem fieldFirst_B (s t : ByteArray) (n2 : Int) (n2l : -9223372036854775808 ≤ n2) (n2h : n2 ≤ 9223372036854775807) (h0 : s.size ≤ 2000) (h1 : t.size ≤ 2000) (k : Nat) (hk : IsPre s t k) (hc : ¬ k < 8 * min s.size t.size) (w : World) :
    Calls Try.prog 12 #[.string s, .string t, .int .i64 n2] w fun e w' => e = .returned (.bool true) ∧ Wider w w' := by
  have G : Hid (Wider w w) := Wider.refl w
  have d0 : decide (2000 < (s.size : Int)) = false := decide_eq_false (by omega)
  have d1 : decide (2000 < (t.size : Int)) = false := decide_eq_false (by omega)
  obtain ⟨N, hN, hN1, hN2⟩ : ∃ N : Nat, wrap64 (1 + wrap64 ((IntKind.u64.wrap n2).tmod 128)) = (N : Int) ∧ 1 ≤ N ∧ N ≤ 128 := by
    have u0 : 0 ≤ IntKind.u64.wrap n2 := by rw [IntKind.wrap_u64]; omega
    rw [Int.tmod_eq_emod_of_nonneg u0]
    generalize IntKind.u64.wrap n2 = V at *
    have e1 : wrap64 (V % 128) = V % 128 := by unfold wrap64; omega
    have e2 : wrap64 (1 + V % 128) = 1 + V % 128 := by unfold wrap64; omega
    rw [e1, e2]
    exact ⟨(1 + V % 128).toNat, by omega, by omega, by omega⟩
  obtain ⟨p, q, e1, hp⟩ := getR_ex s 0 (N : Int)
  obtain ⟨p2, q2, e2, hp2⟩ := getR_ex t 0 (N : Int)
  have HE := Lib.hid (ends_of hk hN2 hp hp2)
  have k8 := hk.le
  have g1 : ((k : Int) != (k : Int)) = false := by simp
  have g2 : decide ((k : Int) < 0) = false := decide_eq_false (by omega)
  have g3 : decide (8 * min (s.size : Int) (t.size : Int) < (k : Int)) = false := decide_eq_false (by omega)
  have hl : ¬ (k : Int) < 8 * min (s.size : Int) (t.size : Int) := by omega
  go_enter Try.func12, Try.ntmps12
  go_upto_region 12 with (first
    | (go_at_call 26; ((with_reducible refine (awake2_c _).mono ?_); rintro e wa ⟨rfl, g⟩; (with_reducible first | (replace G := htrans G g) | (replace G := htransA G g) | (replace G := htransAA G g)); clear g))
    | (go_at_call 37; ((with_reducible refine (prefix_c s t (by omega) (by omega) hk _).mono ?_); rintro e w1 ⟨rfl, g⟩; replace G := hgrown G g; clear g))
    | (go_at_call 37; ((with_reducible refine (prefix_c t s (by omega) (by omega) hk.symm _).mono ?_); rintro e w2 ⟨rfl, g⟩; replace G := hgrown G g; clear g)))
  simp only [hN]
  clear hN
  go_upto_region 14 with (first
    | (go_at_call 27; ((with_reducible refine (get_g s 0 (N : Int) (by omega) (by omega) (by omega) (by omega) (by omega) hp _).mono ?_); rintro e w5 ⟨rfl, g⟩; replace G := hgrown G g; clear g; obtain ⟨k0, k1, _, _⟩ := new2 w5 (.int .u64 p) (.int .u64 q) 24; replace G := halloc2 G (.cells #[.int .u64 p, .int .u64 q] 24)))
    | (go_at_call 27; ((with_reducible refine (get_g t 0 (N : Int) (by omega) (by omega) (by omega) (by omega) (by omega) hp2 _).mono ?_); rintro e w6 ⟨rfl, g⟩; replace G := hgrown G g; replace k0 := gkeep g k0; replace k1 := gkeep g k1; clear g; obtain ⟨k2, k3, _, _⟩ := new2 w6 (.int .u64 p2) (.int .u64 q2) 24; replace k0 := kalloc (o := .cells #[.int .u64 p2, .int .u64 q2] 24) k0; replace k1 := kalloc (o := .cells #[.int .u64 p2, .int .u64 q2] 24) k1; replace G := halloc2 G (.cells #[.int .u64 p2, .int .u64 q2] 24))))
  have HE2 := HE.out
  clear HE
  unfold Ends at HE2
  rcases HE2 with r1 | ⟨r1, r2⟩ | ⟨r1, r2, r3, r4, r5⟩ | ⟨r1, r2, r3, r5⟩ | ⟨r1, r2, r3, r4, r5⟩
  all_goals
    go_wp2
    go_ret
    exact ⟨rfl, G.out⟩


set_option maxHeartbeats 4000000 in
theorem fieldFirst_walk (s : ByteArray) (hm : s.size ≤ maxLen) (t : ByteArray) (hm2 : t.size ≤ maxLen) (n2 : Int) (n2l : -9223372036854775808 ≤ n2) (n2h : n2 ≤ 9223372036854775807) (w : World) :
    Calls Try.prog 12 #[.string s, .string t, .int .i64 n2] w fun e w' => e = .returned (.bool true) ∧ Wider w w' := by
  unfold maxLen at hm hm2
  by_cases h0 : s.size ≤ 2000
  · by_cases h1 : t.size ≤ 2000
    · obtain ⟨k, hk⟩ := isPre_ex s t
      by_cases hc : k < 8 * min s.size t.size
      · exact fieldFirst_A s t n2 n2l n2h h0 h1 k hk hc w
      · exact fieldFirst_B s t n2 n2l n2h h0 h1 k hk hc w
    · have G : Hid (Wider w w) := Wider.refl w
      have d0 : decide (2000 < (s.size : Int)) = false := decide_eq_false (by omega)
      have d1 : decide (2000 < (t.size : Int)) = true := decide_eq_true (by omega)
      go_enter Try.func12, Try.ntmps12
      go_wp2_with (go_at_call 26; ((with_reducible refine (awake2_c _).mono ?_); rintro e wa ⟨rfl, g⟩; (with_reducible first | (replace G := htrans G g) | (replace G := htransA G g) | (replace G := htransAA G g)); clear g))
      go_ret
      exact ⟨rfl, G.out⟩
  · have G : Hid (Wider w w) := Wider.refl w
    have d0 : decide (2000 < (s.size : Int)) = true := decide_eq_true (by omega)
    go_enter Try.func12, Try.ntmps12
    go_wp2_with (go_at_call 26; ((with_reducible refine (awake2_c _).mono ?_); rintro e wa ⟨rfl, g⟩; (with_reducible first | (replace G := htrans G g) | (replace G := htransA G g) | (replace G := htransAA G g)); clear g))
    go_ret
    exact ⟨rfl, G.out⟩

set_option maxRecDepth 100000 in
theorem fieldFirst_lifted (os : Os) (started : os.Started) (H : Type) (enc : TypeId × Value → H) :
    ReturnsInHanded {} Try.checked os 12 .any (Rows.fieldFirstSpec.pre6 enc Try.prog Try.f12 Rows.fieldFirstRow.domain false) (Rows.fieldFirstSpec.post enc Try.prog Try.f12 false true false false) := by
  refine returnsInHanded_of_change (C := Try.checked) own started (by kernel_rfl) Try.func12
    (ChangeSpec.witness6 (enc := enc) (C := Try.checked) false ⟨#[], #[.string ⟨#[]⟩, .string ⟨#[]⟩, .int .i64 0], []⟩ 8 (by kernel_rfl) (by kernel_rfl) (by kernel_rfl) (by kernel_rfl)) ?_
  intro W base args ds gs before hval0 hW hcnd _
  have hval : ∀ (j : Nat) t v, Try.f12.params[j]? = some t → args[j]? = some v → Value.okWide Try.prog W .any base t v := hval0
  have hW' := hW
  obtain ⟨p, q, hA0, hV, rfl, hfz, hnd⟩ := hW
  have hA : DataW.TrodAll enc Try.prog W 0 (fun _ => true) true Try.f12.params.toList args.toList ds p := hA0
  rw [Try.params12] at hA hval
  obtain ⟨v0, vs0, d0, ds0, p0, q0, hargs, rfl, rfl, h0, r0⟩ := trodAll_cons hA
  obtain ⟨v1, vs1, d1, ds1, p1, q1, rfl, rfl, rfl, h1, r1⟩ := trodAll_cons r0
  obtain ⟨v2, vs2, d2, ds2, p2, q2, rfl, rfl, rfl, h2, r2⟩ := trodAll_cons r1
  obtain ⟨rfl, rfl, rfl⟩ := trodAll_nil r2
  obtain rfl : args = #[v0, v1, v2] := by cases args; simp_all
  obtain ⟨rfl, rfl⟩ := trodVars_none hV
  obtain ⟨s0, rfl, rfl, rfl, w0⟩ := open_string Try.underlying9 (hval 0 9 v0 rfl rfl) h0
  obtain ⟨s1, rfl, rfl, rfl, w1⟩ := open_string Try.underlying9 (hval 1 9 v1 rfl rfl) h1
  obtain ⟨n2, rfl, rfl, rfl, w2⟩ := open_int Try.underlying3 (hval 2 3 v2 rfl rfl) h2
  clear hA0 hval0
  simp only [List.append_nil] at hW'
  refine (fieldFirst_walk s0 w0 s1 w1 n2 (bounds_i64 w2).1 (bounds_i64 w2).2 W).mono fun e W' ⟨he, hg⟩ => ?_
  subst he
  exact ⟨_, rfl, post_of_none hW' (fun _ _ _ => (trodAll_cons_mk (shut_bool Try.underlying4 _) trodAll_mk0)) (fun sp => (trodAll_cons_mk (shut_string Try.underlying9 w0) (trodAll_cons_mk (shut_string Try.underlying9 w1) (trodAll_cons_mk (shut_int Try.underlying3 w2) trodAll_mk0)))) (fun _ => rfl)
    hg.1 (ok_one (by kernel_rfl) rfl (okWide_bool_mk Try.underlying4 _))⟩

theorem fieldFirst_holds : Rows.FieldFirstSaid :=
  OpenClaim.holds_of_wide 12 Try.f12 rfl rfl rfl rfl rfl rfl rfl ⟨rfl, rfl, rfl, rfl, rfl⟩ rfl rfl rfl rfl rfl (by kernel_rfl) Try.func12 (by kernel_rfl)
    (of_decide_eq_true (by kernel_rfl)) (by unfold Func.isWrapper; first | (rw [if_pos (by decide +kernel)]; kernel_rfl) | (rw [if_neg (by decide +kernel)]; exact ⟨rfl, rfl⟩))
    (fun os started H enc _ => fieldFirst_lifted os started H enc)

#print axioms fieldFirst_holds

end Go.Proofs.Ytmlmamhcglpfeaa
