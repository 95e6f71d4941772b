/- The law TlvOrder: of two numbers the greater one has more bytes, or as many and the greater ones. No condition. -/
import Derived.Test.YtemfionibnlniaaTUse
import Derived.Test.YtemfionibnlniaaTArgs
import Derived.WalkKit
import Derived.Lib.Hide
import Derived.Deep.DeepCutAuto
import Derived.WalkLawsBesides
import Derived.WalkSpells
import Derived.BigQuiet
import Derived.BigRegion
import Derived.Deep.RegionHeld3
namespace Go.Proofs.Ytemfionibnlniaa
set_option linter.unusedVariables false
open Go.ChangeShapes Go.WideShapes Go.ChangeAt Go.RowKit Go.Joins
open Go.ChangeMaps (open_string shut_string)


theorem numB_len_mono {a b : Nat} (h : a ≤ b) : (numB a).length ≤ (numB b).length := by
  apply numB_len_le
  have := readB_lt (numB b)
  rw [readB_numB] at this
  omega
theorem rnum_of (a b : Nat) (ha : a < 18446744073709551616) : rnumN (numB a) b = if a ≤ b then (a, 0) else (0, 3) := by
  unfold rnumN
  have h8 := numB_len a ha
  have hh : ¬ (numB a).head? = some 0 := by
    intro e
    by_cases z : a = 0
    · subst z; rw [numB_0] at e; cases e
    · obtain ⟨x, l, q, hx⟩ := numB_head a z
      rw [q] at e
      injection e with e
      exact hx e
  rw [if_neg (by rintro (h | h); omega; exact hh h), readB_numB]
  by_cases c : a ≤ b
  · rw [if_neg (by omega), if_pos c]
  · rw [if_pos (by omega), if_neg c]

set_option maxHeartbeats 8000000 in
theorem tlvOrder_walk (n0 : Int) (n0l : 0 ≤ n0) (n0h : n0 < 18446744073709551616) (n1 : Int) (n1l : 0 ≤ n1) (n1h : n1 < 18446744073709551616) (w : World) :
    Calls Try.prog 9 #[.int .u64 n0, .int .u64 n1] w fun e w' => e = .returned (.bool true) ∧ Wider w w' := by
  have G : Hid (Wider w w) := Wider.refl w
  obtain ⟨a, rfl⟩ : ∃ a : Nat, n0 = (a : Int) := ⟨n0.toNat, by omega⟩
  obtain ⟨b, rfl⟩ : ∃ b : Nat, n1 = (b : Int) := ⟨n1.toNat, by omega⟩
  have la : a < 18446744073709551616 := by omega
  have lb : b < 18446744073709551616 := by omega
  clear n0l n0h n1l n1h
  obtain ⟨S, hS⟩ : ∃ T, mkB (numB a) = T := ⟨_, rfl⟩
  obtain ⟨T, hT⟩ : ∃ T, mkB (numB b) = T := ⟨_, rfl⟩
  have hSd : S.data.toList = numB a := by rw [← hS, mkB_data]
  have hTd : T.data.toList = numB b := by rw [← hT, mkB_data]
  have hSs : S.size = (numB a).length := by rw [size_data, hSd]
  have hTs : T.size = (numB b).length := by rw [size_data, hTd]
  have z3 := fun W => tnum_a a W la hS
  have z4 := fun W => tnum_a b W lb hT
  have s8 : S.size ≤ 8 := by rw [hSs]; exact numB_len a la
  have t8 : T.size ≤ 8 := by rw [hTs]; exact numB_len b lb
  obtain ⟨⟨v, r⟩, hr⟩ : ∃ p, rnumN S.data.toList b = p := ⟨_, rfl⟩
  have z1 := fun W => treadnum_a S b W (by omega) lb hr
  rw [hSd, rnum_of a b la] at hr
  have lens : (a ≤ b → S.size ≤ T.size) ∧ (b ≤ a → T.size ≤ S.size) := by
    rw [hSs, hTs]; exact ⟨fun h => numB_len_mono h, fun h => numB_len_mono h⟩
  have less : S.size = T.size → Op.bytesLess S.toList T.toList = decide (a < b) := fun h => by
    rw [ByteArray.toList_eq, ByteArray.toList_eq, hSd, hTd, bytesLess_read _ _ (by rw [← hSs, ← hTs]; exact h), readB_numB, readB_numB]
  have same : a ≠ b → (S.toList == T.toList) = false := fun h => by
    rw [beq_eq_false_iff_ne, ByteArray.toList_eq, ByteArray.toList_eq, hSd, hTd]
    intro e
    apply h
    rw [← readB_numB a, e, readB_numB]
  have eqs : a = b → S = T := fun h => by rw [← hS, h, hT]
  clear hS hT hSd hTd hSs hTs
  rcases Nat.lt_trichotomy a b with c | c | c
  · rw [if_pos (by omega)] at hr
    obtain ⟨rfl, rfl⟩ : a = v ∧ 0 = r := by injection hr with x y; exact ⟨x, y⟩
    have q1 := lens.1 (by omega)
    have q2 := same (by omega)
    have l1 : decide ((T.size : Int) < (S.size : Int)) = false := decide_eq_false (by omega)
    have l2 : decide (T.size < S.size) = false := decide_eq_false (by omega)
    have m1 : decide ((b : Int) < (a : Int)) = false := decide_eq_false (by omega)
    have m2 : decide (b < a) = false := decide_eq_false (by omega)
    have m3 : ((a : Int) == (b : Int)) = false := by rw [beq_eq_false_iff_ne]; omega
    have m4 : decide ((a : Int) ≤ (b : Int)) = true := decide_eq_true (by omega)
    have m5 : decide (a ≤ b) = true := decide_eq_true (by omega)
    by_cases d : S.size = T.size
    · have q3 := less d
      have m6 : decide (a < b) = true := decide_eq_true c
      rw [m6] at q3
      have d1 : ((S.size : Int) == (T.size : Int)) = true := by rw [beq_iff_eq]; omega
      clear lens less same eqs hr
      go_enter Try.func9, Try.ntmps9
      go_wp2_with (first
        | (go_at_call 13; ((with_reducible refine (awake6_c _).mono ?_); rintro e wa ⟨rfl, g⟩; replace G := htrans G g; clear g))
        | (go_at_call 21; ((with_reducible refine (z1 _).mono ?_); rintro e w1 ⟨rfl, g⟩; replace G := htrans G g; clear g))
        | (go_at_call 23; ((with_reducible refine (z3 _).mono ?_); rintro e w1 ⟨rfl, g⟩; replace G := htrans G g; clear g))
        | (go_at_call 23; ((with_reducible refine (z4 _).mono ?_); rintro e w1 ⟨rfl, g⟩; replace G := htrans G g; clear g)))
      go_ret
      exact ⟨rfl, G.out⟩
    · have d1 : ((S.size : Int) == (T.size : Int)) = false := by rw [beq_eq_false_iff_ne]; omega
      clear lens less same eqs hr
      go_enter Try.func9, Try.ntmps9
      go_wp2_with (first
        | (go_at_call 13; ((with_reducible refine (awake6_c _).mono ?_); rintro e wa ⟨rfl, g⟩; replace G := htrans G g; clear g))
        | (go_at_call 21; ((with_reducible refine (z1 _).mono ?_); rintro e w1 ⟨rfl, g⟩; replace G := htrans G g; clear g))
        | (go_at_call 23; ((with_reducible refine (z3 _).mono ?_); rintro e w1 ⟨rfl, g⟩; replace G := htrans G g; clear g))
        | (go_at_call 23; ((with_reducible refine (z4 _).mono ?_); rintro e w1 ⟨rfl, g⟩; replace G := htrans G g; clear g)))
      go_ret
      exact ⟨rfl, G.out⟩
  · subst c
    obtain rfl := eqs rfl
    rw [if_pos (by omega)] at hr
    obtain ⟨rfl, rfl⟩ : a = v ∧ 0 = r := by injection hr with x y; exact ⟨x, y⟩
    have q3 := less rfl
    have m6 : decide (a < a) = false := decide_eq_false (by omega)
    rw [m6] at q3
    clear lens less same eqs hr
    go_enter Try.func9, Try.ntmps9
    go_wp2_with (first
      | (go_at_call 13; ((with_reducible refine (awake6_c _).mono ?_); rintro e wa ⟨rfl, g⟩; replace G := htrans G g; clear g))
      | (go_at_call 21; ((with_reducible refine (z1 _).mono ?_); rintro e w1 ⟨rfl, g⟩; replace G := htrans G g; clear g))
      | (go_at_call 23; ((with_reducible refine (z3 _).mono ?_); rintro e w1 ⟨rfl, g⟩; replace G := htrans G g; clear g))
      | (go_at_call 23; ((with_reducible refine (z4 _).mono ?_); rintro e w1 ⟨rfl, g⟩; replace G := htrans G g; clear g)))
    go_ret
    exact ⟨rfl, G.out⟩
  · rw [if_neg (by omega)] at hr
    obtain ⟨rfl, rfl⟩ : 0 = v ∧ 3 = r := by injection hr with x y; exact ⟨x, y⟩
    have q1 := lens.2 (by omega)
    have q2 := same (by omega)
    have m1 : decide ((b : Int) < (a : Int)) = true := decide_eq_true (by omega)
    have m2 : decide (b < a) = true := decide_eq_true (by omega)
    have m3 : ((a : Int) == (b : Int)) = false := by rw [beq_eq_false_iff_ne]; omega
    have m4 : decide ((a : Int) ≤ (b : Int)) = false := decide_eq_false (by omega)
    have m5 : decide (a ≤ b) = false := decide_eq_false (by omega)
    by_cases d : S.size = T.size
    · have q3 := less d
      have m6 : decide (a < b) = false := decide_eq_false (by omega)
      rw [m6] at q3
      have l1 : decide ((T.size : Int) < (S.size : Int)) = false := decide_eq_false (by omega)
      have l2 : decide (T.size < S.size) = false := decide_eq_false (by omega)
      have d1 : ((S.size : Int) == (T.size : Int)) = true := by rw [beq_iff_eq]; omega
      clear lens less same eqs hr
      go_enter Try.func9, Try.ntmps9
      go_wp2_with (first
        | (go_at_call 13; ((with_reducible refine (awake6_c _).mono ?_); rintro e wa ⟨rfl, g⟩; replace G := htrans G g; clear g))
        | (go_at_call 21; ((with_reducible refine (z1 _).mono ?_); rintro e w1 ⟨rfl, g⟩; replace G := htrans G g; clear g))
        | (go_at_call 23; ((with_reducible refine (z3 _).mono ?_); rintro e w1 ⟨rfl, g⟩; replace G := htrans G g; clear g))
        | (go_at_call 23; ((with_reducible refine (z4 _).mono ?_); rintro e w1 ⟨rfl, g⟩; replace G := htrans G g; clear g)))
      go_ret
      exact ⟨rfl, G.out⟩
    · have l1 : decide ((T.size : Int) < (S.size : Int)) = true := decide_eq_true (by omega)
      have l2 : decide (T.size < S.size) = true := decide_eq_true (by omega)
      have d1 : ((S.size : Int) == (T.size : Int)) = false := by rw [beq_eq_false_iff_ne]; omega
      clear lens less same eqs hr
      go_enter Try.func9, Try.ntmps9
      go_wp2_with (first
        | (go_at_call 13; ((with_reducible refine (awake6_c _).mono ?_); rintro e wa ⟨rfl, g⟩; replace G := htrans G g; clear g))
        | (go_at_call 21; ((with_reducible refine (z1 _).mono ?_); rintro e w1 ⟨rfl, g⟩; replace G := htrans G g; clear g))
        | (go_at_call 23; ((with_reducible refine (z3 _).mono ?_); rintro e w1 ⟨rfl, g⟩; replace G := htrans G g; clear g))
        | (go_at_call 23; ((with_reducible refine (z4 _).mono ?_); rintro e w1 ⟨rfl, g⟩; replace G := htrans G g; clear g)))
      go_ret
      exact ⟨rfl, G.out⟩

set_option maxRecDepth 100000 in
theorem tlvOrder_lifted (os : Os) (started : os.Started) (H : Type) (enc : TypeId × Value → H) :
    ReturnsInHanded {} Try.checked os 9 .any (Rows.tlvOrderSpec.pre6 enc Try.prog Try.f9 Rows.tlvOrderRow.domain false) (Rows.tlvOrderSpec.post enc Try.prog Try.f9 false true false false) := by
  refine returnsInHanded_of_change (C := Try.checked) own started (by kernel_rfl) Try.func9
    (ChangeSpec.witness6 (enc := enc) (C := Try.checked) false ⟨#[], #[.int .u64 0, .int .u64 0], []⟩ 8 (by kernel_rfl) (by kernel_rfl) (by kernel_rfl) (by kernel_rfl)) ?_
  intro W base args ds gs before hval0 hW hcnd _
  have hval : ∀ (j : Nat) t v, Try.f9.params[j]? = some t → args[j]? = some v → Value.okWide Try.prog W .any base t v := hval0
  have hW' := hW
  obtain ⟨p, q, hA0, hV, rfl, hfz, hnd⟩ := hW
  have hA : DataW.TrodAll enc Try.prog W 0 (fun _ => true) true Try.f9.params.toList args.toList ds p := hA0
  rw [Try.params9] at hA hval
  obtain ⟨v0, vs0, d0, ds0, p0, q0, hargs, rfl, rfl, h0, r0⟩ := trodAll_cons hA
  obtain ⟨v1, vs1, d1, ds1, p1, q1, rfl, rfl, rfl, h1, r1⟩ := trodAll_cons r0
  obtain ⟨rfl, rfl, rfl⟩ := trodAll_nil r1
  obtain rfl : args = #[v0, v1] := by cases args; simp_all
  obtain ⟨rfl, rfl⟩ := trodVars_none hV
  obtain ⟨n0, rfl, rfl, rfl, w0⟩ := open_int Try.underlying40 (hval 0 40 v0 rfl rfl) h0
  obtain ⟨n1, rfl, rfl, rfl, w1⟩ := open_int Try.underlying40 (hval 1 40 v1 rfl rfl) h1
  clear hA0 hval0
  simp only [List.append_nil] at hW'
  refine (tlvOrder_walk n0 (bounds_u64 w0).1 (bounds_u64 w0).2 n1 (bounds_u64 w1).1 (bounds_u64 w1).2 W).mono fun e W' ⟨he, hg⟩ => ?_
  subst he
  exact ⟨_, rfl, post_of_none hW' (fun _ _ _ => (trodAll_cons_mk (shut_bool Try.underlying4 _) trodAll_mk0)) (fun sp => (trodAll_cons_mk (shut_int Try.underlying40 w0) (trodAll_cons_mk (shut_int Try.underlying40 w1) trodAll_mk0))) (fun _ => rfl)
    hg.1 (ok_one (by kernel_rfl) rfl (okWide_bool_mk Try.underlying4 _))⟩

theorem tlvOrder_holds : Rows.TlvOrderSaid :=
  OpenClaim.holds_of_wide 9 Try.f9 rfl rfl rfl rfl rfl rfl rfl ⟨rfl, rfl, rfl, rfl, rfl⟩ rfl rfl rfl rfl rfl (by kernel_rfl) Try.func9 (by kernel_rfl)
    (of_decide_eq_true (by kernel_rfl)) (by unfold Func.isWrapper; first | (rw [if_pos (by decide +kernel)]; kernel_rfl) | (rw [if_neg (by decide +kernel)]; exact ⟨rfl, rfl⟩))
    (fun os started H enc _ => tlvOrder_lifted os started H enc)

#print axioms tlvOrder_holds

end Go.Proofs.Ytemfionibnlniaa
