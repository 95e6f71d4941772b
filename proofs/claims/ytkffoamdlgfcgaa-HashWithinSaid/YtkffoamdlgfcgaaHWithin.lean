/- The law HashWithin: Slot is from 0 to n - 1, rises with the number; a slot begins at the least number that is in it. No condition. -/
import Derived.Test.YtkffoamdlgfcgaaHAwake
import Derived.Test.YtkffoamdlgfcgaaSOpen
import Derived.Test.YtkffoamdlgfcgaaHOpen
import Derived.Lib.Hide
import Derived.Deep.DeepCutAuto
import Derived.WalkLawsBesides
import Derived.WalkSpells
namespace Go.Proofs.Ytkffoamdlgfcgaa
set_option linter.unusedVariables false
open Go.ChangeShapes Go.WideShapes Go.ChangeAt Go.RowKit Go.Joins
open Go.ChangeMaps (open_string shut_string)

/-- What the law asks of its numbers. -/
structure WithinSlots (a b : Nat) (n2 : Int) (N x y F X Y : Nat) : Prop where
  wn : 1 + wrap64 ((IntKind.u64.wrap n2).tmod 2147483647) = (N : Int)
  wn1 : 1 ≤ N
  wnh : N ≤ 2147483647
  wx : slotN a N = x
  wy : slotN b N = y
  wxn : x < N
  wyn : y < N
  wup : a ≤ b → x ≤ y
  wdown : b ≤ a → y ≤ x
  wX : x * 4294967296 = X
  wY : X + N - 1 = Y
  wF : Y / N = F
  wfa : F ≤ a
  wfx : slotN F N = x
  wfb : F ≠ 0 → slotN (F - 1) N + 1 = x
theorem within_facts (a b : Nat) (n2 : Int) (ha : a < 4294967296) (hb : b < 4294967296) : ∃ N x y F X Y : Nat, WithinSlots a b n2 N x y F X Y := by
  have u0 : 0 ≤ IntKind.u64.wrap n2 := by rw [IntKind.wrap_u64]; omega
  obtain ⟨V, hV⟩ : ∃ V : Int, IntKind.u64.wrap n2 % 2147483647 = V := ⟨_, rfl⟩
  have v0 : 0 ≤ V := by omega
  have v1 : V < 2147483647 := by omega
  obtain ⟨N, hN⟩ : ∃ N : Nat, 1 + V = (N : Int) := ⟨(1 + V).toNat, by omega⟩
  have e : 1 + wrap64 ((IntKind.u64.wrap n2).tmod 2147483647) = (N : Int) := by
    rw [Int.tmod_eq_emod_of_nonneg u0, hV]
    have e1 : wrap64 V = V := by unfold wrap64; omega
    rw [e1]; exact hN
  clear hV u0
  obtain ⟨x, hx⟩ : ∃ x : Nat, slotN a N = x := ⟨_, rfl⟩
  obtain ⟨f1, f2, f3⟩ := first_facts (a := a) (n := N) (x := x) (by omega) (by omega) ha hx
  refine ⟨N, x, slotN b N, firstN x N, x * 4294967296, x * 4294967296 + N - 1, ⟨e, by omega, by omega, hx, rfl, ?_, ?_, fun h => ?_, fun h => ?_, rfl, rfl, rfl, f1, f2, f3⟩⟩
  · have := slot_lt (h := a) (n := N) ha (by omega); omega
  · have := slot_lt (h := b) (n := N) hb (by omega); omega
  · rw [← hx]; exact slot_mono h
  · rw [← hx]; exact slot_mono h
/-- Slot with the row's number as it stands. -/
theorem hslot_w (h N : Nat) {r : Nat} (hh : h < 4294967296) (n1 : 1 ≤ N) (nh : N ≤ 2147483647) (hr : slotN h N = r) (w : World) :
    Calls Try.prog 20 #[.int .u32 (h : Int), .int .i64 (N : Int)] w fun e w' => e = .returned (.int .i64 (r : Int)) ∧ Wider w w' :=
  hslot_c h (N : Int) hh (by omega) (by omega) (by rw [if_neg (by omega), Int.toNat_natCast]; exact hr) w

set_option maxRecDepth 100000 in
set_option maxHeartbeats 16000000 in
theorem within_lt (a b : Nat) (n2 : Int) (ha : a < 4294967296) (hb : b < 4294967296) (c0 : -9223372036854775808 ≤ n2) (c1 : n2 ≤ 9223372036854775807) (N x y F X Y : Nat) (h : WithinSlots a b n2 N x y F X Y) (hab : a < b) (w : World) :
    Calls Try.prog 8 #[.int .u32 (a : Int), .int .u32 (b : Int), .int .i64 n2] w fun e w' => e = .returned (.bool true) ∧ Wider w w' := by
  have G : Hid (Wider w w) := Wider.refl w
  obtain ⟨n, n1, nh, hx, hy, xn, yn, up, down, hX, hY, hF, fa, fx, fb⟩ := h
  have z1 := hslot_w a N ha n1 nh hx
  have z2 := hslot_w b N hb n1 nh hy
  have F32 : F < 4294967296 := Nat.lt_of_le_of_lt fa ha
  have z3 := hslot_w F N F32 n1 nh fx
  have d1 : decide ((x : Int) < 0) = false := decide_eq_false (by omega)
  have d2 : decide ((N : Int) ≤ (x : Int)) = false := decide_eq_false (by omega)
  have d2' : decide (N ≤ x) = false := decide_eq_false (by omega)
  have d3 : decide ((a : Int) < (F : Int)) = false := decide_eq_false (by omega)
  have d3' : decide (a < F) = false := decide_eq_false (by omega)
  have xh : x < 2147483647 := by omega
  have Xh : X < 9223372036854775807 := by omega
  have Yh : Y < 9223372036854775807 := by omega
  have iX : (x : Int) * 4294967296 = (X : Int) := by omega
  have iY : (X : Int) + (N : Int) - 1 = (Y : Int) := by omega
  have iF : (Y : Int).tdiv (N : Int) = (F : Int) := by rw [← hF]; exact (Int.ofNat_tdiv Y N).symm
  have iF2 : (Y : Int) / (N : Int) = (F : Int) := by rw [← hF]; rfl
  have e1 : decide ((a : Int) ≤ (b : Int)) = true := decide_eq_true (by omega)
  have e1' : decide (a ≤ b) = true := decide_eq_true (by omega)
  have xy := up (by omega)
  have e2 : decide ((y : Int) < (x : Int)) = false := decide_eq_false (by omega)
  have e2' : decide (y < x) = false := decide_eq_false (by omega)
  have e3 : decide ((b : Int) ≤ (a : Int)) = false := decide_eq_false (by omega)
  have e3' : decide (b ≤ a) = false := decide_eq_false (by omega)
  clear hx hy fx hX hY hF up down
  go_enter Try.func8, Try.ntmps8
  go_upto_region 8 with (first
    | (go_at_call 20; ((with_reducible refine (z1 _).mono ?_); rintro e w1 ⟨rfl, g⟩; replace G := htrans G g; clear g))
    | (go_at_call 20; ((with_reducible refine (z2 _).mono ?_); rintro e w1 ⟨rfl, g⟩; replace G := htrans G g; clear g))
    | (go_at_call 20; ((with_reducible refine (z3 _).mono ?_); rintro e w1 ⟨rfl, g⟩; replace G := htrans G g; clear g)))
  clear z1 z2 z3 iF iF2 iX iY n
  by_cases f0 : F = 0
  · subst f0
    go_wp2_with (first
      | (go_at_call 11; ((with_reducible refine (awake4_c _).mono ?_); rintro e wa ⟨rfl, g⟩; replace G := htrans G g; clear g)))
    go_ret
    exact ⟨rfl, G.out⟩
  · have g1 : ((F : Int) == 0) = false := by simp; omega
    have g2 : decide ((F : Int) = 0) = false := decide_eq_false (by omega)
    have x1 : 1 ≤ x := by have := fb f0; omega
    obtain ⟨f, hf⟩ : ∃ f : Nat, (F : Int) - 1 = (f : Int) := ⟨F - 1, by omega⟩
    obtain ⟨v, hv⟩ : ∃ v : Nat, (x : Int) - 1 = (v : Int) := ⟨x - 1, by omega⟩
    have z4 := hslot_w f N (r := v) (by omega) n1 nh (by have := fb f0; rw [show F - 1 = f by omega] at this; omega)
    have ff : (f : Int) < 4294967296 := by omega
    clear fb
    go_wp2_with (first
      | (go_at_call 20; ((with_reducible refine (z4 _).mono ?_); rintro e w1 ⟨rfl, g⟩; replace G := htrans G g; clear g))
      | (go_at_call 11; ((with_reducible refine (awake4_c _).mono ?_); rintro e wa ⟨rfl, g⟩; replace G := htrans G g; clear g)))
    go_ret
    exact ⟨rfl, G.out⟩

set_option maxRecDepth 100000 in
set_option maxHeartbeats 16000000 in
theorem within_eq (a b : Nat) (n2 : Int) (ha : a < 4294967296) (hb : b < 4294967296) (c0 : -9223372036854775808 ≤ n2) (c1 : n2 ≤ 9223372036854775807) (N x y F X Y : Nat) (h : WithinSlots a b n2 N x y F X Y) (hab : a = b) (w : World) :
    Calls Try.prog 8 #[.int .u32 (a : Int), .int .u32 (b : Int), .int .i64 n2] w fun e w' => e = .returned (.bool true) ∧ Wider w w' := by
  have G : Hid (Wider w w) := Wider.refl w
  obtain ⟨n, n1, nh, hx, hy, xn, yn, up, down, hX, hY, hF, fa, fx, fb⟩ := h
  subst hab
  obtain rfl : x = y := hx.symm.trans hy
  have z1 := hslot_w a N ha n1 nh hx
  have z2 := z1
  have F32 : F < 4294967296 := Nat.lt_of_le_of_lt fa ha
  have z3 := hslot_w F N F32 n1 nh fx
  have d1 : decide ((x : Int) < 0) = false := decide_eq_false (by omega)
  have d2 : decide ((N : Int) ≤ (x : Int)) = false := decide_eq_false (by omega)
  have d2' : decide (N ≤ x) = false := decide_eq_false (by omega)
  have d3 : decide ((a : Int) < (F : Int)) = false := decide_eq_false (by omega)
  have d3' : decide (a < F) = false := decide_eq_false (by omega)
  have xh : x < 2147483647 := by omega
  have Xh : X < 9223372036854775807 := by omega
  have Yh : Y < 9223372036854775807 := by omega
  have iX : (x : Int) * 4294967296 = (X : Int) := by omega
  have iY : (X : Int) + (N : Int) - 1 = (Y : Int) := by omega
  have iF : (Y : Int).tdiv (N : Int) = (F : Int) := by rw [← hF]; exact (Int.ofNat_tdiv Y N).symm
  have iF2 : (Y : Int) / (N : Int) = (F : Int) := by rw [← hF]; rfl
  have e1 : decide ((a : Int) ≤ (a : Int)) = true := decide_eq_true (by omega)
  have e1' : decide (a ≤ a) = true := decide_eq_true (by omega)
  have e2 : decide ((x : Int) < (x : Int)) = false := decide_eq_false (by omega)
  have e2' : decide (x < x) = false := decide_eq_false (by omega)
  clear hx hy fx hX hY hF up down
  go_enter Try.func8, Try.ntmps8
  go_upto_region 8 with (first
    | (go_at_call 20; ((with_reducible refine (z1 _).mono ?_); rintro e w1 ⟨rfl, g⟩; replace G := htrans G g; clear g))
    | (go_at_call 20; ((with_reducible refine (z2 _).mono ?_); rintro e w1 ⟨rfl, g⟩; replace G := htrans G g; clear g))
    | (go_at_call 20; ((with_reducible refine (z3 _).mono ?_); rintro e w1 ⟨rfl, g⟩; replace G := htrans G g; clear g)))
  clear z1 z2 z3 iF iF2 iX iY n
  by_cases f0 : F = 0
  · subst f0
    go_wp2_with (first
      | (go_at_call 11; ((with_reducible refine (awake4_c _).mono ?_); rintro e wa ⟨rfl, g⟩; replace G := htrans G g; clear g)))
    go_ret
    exact ⟨rfl, G.out⟩
  · have g1 : ((F : Int) == 0) = false := by simp; omega
    have g2 : decide ((F : Int) = 0) = false := decide_eq_false (by omega)
    have x1 : 1 ≤ x := by have := fb f0; omega
    obtain ⟨f, hf⟩ : ∃ f : Nat, (F : Int) - 1 = (f : Int) := ⟨F - 1, by omega⟩
    obtain ⟨v, hv⟩ : ∃ v : Nat, (x : Int) - 1 = (v : Int) := ⟨x - 1, by omega⟩
    have z4 := hslot_w f N (r := v) (by omega) n1 nh (by have := fb f0; rw [show F - 1 = f by omega] at this; omega)
    have ff : (f : Int) < 4294967296 := by omega
    clear fb
    go_wp2_with (first
      | (go_at_call 20; ((with_reducible refine (z4 _).mono ?_); rintro e w1 ⟨rfl, g⟩; replace G := htrans G g; clear g))
      | (go_at_call 11; ((with_reducible refine (awake4_c _).mono ?_); rintro e wa ⟨rfl, g⟩; replace G := htrans G g; clear g)))
    go_ret
    exact ⟨rfl, G.out⟩

set_option maxRecDepth 100000 in
set_option maxHeartbeats 16000000 in
theorem within_gt (a b : Nat) (n2 : Int) (ha : a < 4294967296) (hb : b < 4294967296) (c0 : -9223372036854775808 ≤ n2) (c1 : n2 ≤ 9223372036854775807) (N x y F X Y : Nat) (h : WithinSlots a b n2 N x y F X Y) (hab : b < a) (w : World) :
    Calls Try.prog 8 #[.int .u32 (a : Int), .int .u32 (b : Int), .int .i64 n2] w fun e w' => e = .returned (.bool true) ∧ Wider w w' := by
  have G : Hid (Wider w w) := Wider.refl w
  obtain ⟨n, n1, nh, hx, hy, xn, yn, up, down, hX, hY, hF, fa, fx, fb⟩ := h
  have z1 := hslot_w a N ha n1 nh hx
  have z2 := hslot_w b N hb n1 nh hy
  have F32 : F < 4294967296 := Nat.lt_of_le_of_lt fa ha
  have z3 := hslot_w F N F32 n1 nh fx
  have d1 : decide ((x : Int) < 0) = false := decide_eq_false (by omega)
  have d2 : decide ((N : Int) ≤ (x : Int)) = false := decide_eq_false (by omega)
  have d2' : decide (N ≤ x) = false := decide_eq_false (by omega)
  have d3 : decide ((a : Int) < (F : Int)) = false := decide_eq_false (by omega)
  have d3' : decide (a < F) = false := decide_eq_false (by omega)
  have xh : x < 2147483647 := by omega
  have Xh : X < 9223372036854775807 := by omega
  have Yh : Y < 9223372036854775807 := by omega
  have iX : (x : Int) * 4294967296 = (X : Int) := by omega
  have iY : (X : Int) + (N : Int) - 1 = (Y : Int) := by omega
  have iF : (Y : Int).tdiv (N : Int) = (F : Int) := by rw [← hF]; exact (Int.ofNat_tdiv Y N).symm
  have iF2 : (Y : Int) / (N : Int) = (F : Int) := by rw [← hF]; rfl
  have e1 : decide ((a : Int) ≤ (b : Int)) = false := decide_eq_false (by omega)
  have e1' : decide (a ≤ b) = false := decide_eq_false (by omega)
  have yx := down (by omega)
  have e3 : decide ((b : Int) ≤ (a : Int)) = true := decide_eq_true (by omega)
  have e3' : decide (b ≤ a) = true := decide_eq_true (by omega)
  have e4 : decide ((x : Int) < (y : Int)) = false := decide_eq_false (by omega)
  have e4' : decide (x < y) = false := decide_eq_false (by omega)
  clear hx hy fx hX hY hF up down
  go_enter Try.func8, Try.ntmps8
  go_upto_region 8 with (first
    | (go_at_call 20; ((with_reducible refine (z1 _).mono ?_); rintro e w1 ⟨rfl, g⟩; replace G := htrans G g; clear g))
    | (go_at_call 20; ((with_reducible refine (z2 _).mono ?_); rintro e w1 ⟨rfl, g⟩; replace G := htrans G g; clear g))
    | (go_at_call 20; ((with_reducible refine (z3 _).mono ?_); rintro e w1 ⟨rfl, g⟩; replace G := htrans G g; clear g)))
  clear z1 z2 z3 iF iF2 iX iY n
  by_cases f0 : F = 0
  · subst f0
    go_wp2_with (first
      | (go_at_call 11; ((with_reducible refine (awake4_c _).mono ?_); rintro e wa ⟨rfl, g⟩; replace G := htrans G g; clear g)))
    go_ret
    exact ⟨rfl, G.out⟩
  · have g1 : ((F : Int) == 0) = false := by simp; omega
    have g2 : decide ((F : Int) = 0) = false := decide_eq_false (by omega)
    have x1 : 1 ≤ x := by have := fb f0; omega
    obtain ⟨f, hf⟩ : ∃ f : Nat, (F : Int) - 1 = (f : Int) := ⟨F - 1, by omega⟩
    obtain ⟨v, hv⟩ : ∃ v : Nat, (x : Int) - 1 = (v : Int) := ⟨x - 1, by omega⟩
    have z4 := hslot_w f N (r := v) (by omega) n1 nh (by have := fb f0; rw [show F - 1 = f by omega] at this; omega)
    have ff : (f : Int) < 4294967296 := by omega
    clear fb
    go_wp2_with (first
      | (go_at_call 20; ((with_reducible refine (z4 _).mono ?_); rintro e w1 ⟨rfl, g⟩; replace G := htrans G g; clear g))
      | (go_at_call 11; ((with_reducible refine (awake4_c _).mono ?_); rintro e wa ⟨rfl, g⟩; replace G := htrans G g; clear g)))
    go_ret
    exact ⟨rfl, G.out⟩

theorem hashWithin_walk (n0 : Int) (a0 : 0 ≤ n0) (a1 : n0 < 4294967296) (n1 : Int) (b0 : 0 ≤ n1) (b1 : n1 < 4294967296) (n2 : Int) (c0 : -9223372036854775808 ≤ n2) (c1 : n2 ≤ 9223372036854775807) (w : World) :
    Calls Try.prog 8 #[.int .u32 n0, .int .u32 n1, .int .i64 n2] w fun e w' => e = .returned (.bool true) ∧ Wider w w' := by
  obtain ⟨a, rfl⟩ : ∃ a : Nat, n0 = (a : Int) := ⟨n0.toNat, by omega⟩
  obtain ⟨b, rfl⟩ : ∃ b : Nat, n1 = (b : Int) := ⟨n1.toNat, by omega⟩
  obtain ⟨N, x, y, F, X, Y, h⟩ := within_facts a b n2 (by omega) (by omega)
  rcases Nat.lt_trichotomy a b with hab | hab | hab
  · exact within_lt a b n2 (by omega) (by omega) c0 c1 N x y F X Y h hab w
  · exact within_eq a b n2 (by omega) (by omega) c0 c1 N x y F X Y h hab w
  · exact within_gt a b n2 (by omega) (by omega) c0 c1 N x y F X Y h hab w

set_option maxRecDepth 100000 in
theorem hashWithin_lifted (os : Os) (started : os.Started) (H : Type) (enc : TypeId × Value → H) :
    ReturnsInHanded {} Try.checked os 8 .any (Rows.hashWithinSpec.pre6 enc Try.prog Try.f8 Rows.hashWithinRow.domain false) (Rows.hashWithinSpec.post enc Try.prog Try.f8 false true false false) := by
  refine returnsInHanded_of_change (C := Try.checked) own started (by kernel_rfl) Try.func8
    (ChangeSpec.witness6 (enc := enc) (C := Try.checked) false ⟨#[], #[.int .u32 0, .int .u32 0, .int .i64 0], []⟩ 8 (by kernel_rfl) (by kernel_rfl) (by kernel_rfl) (by kernel_rfl)) ?_
  intro W base args ds gs before hval0 hW hcnd _
  have hval : ∀ (j : Nat) t v, Try.f8.params[j]? = some t → args[j]? = some v → Value.okWide Try.prog W .any base t v := hval0
  have hW' := hW
  obtain ⟨p, q, hA0, hV, rfl, hfz, hnd⟩ := hW
  have hA : DataW.TrodAll enc Try.prog W 0 (fun _ => true) true Try.f8.params.toList args.toList ds p := hA0
  rw [Try.params8] at hA hval
  obtain ⟨v0, vs0, d0, ds0, p0, q0, hargs, rfl, rfl, h0, r0⟩ := trodAll_cons hA
  obtain ⟨v1, vs1, d1, ds1, p1, q1, rfl, rfl, rfl, h1, r1⟩ := trodAll_cons r0
  obtain ⟨v2, vs2, d2, ds2, p2, q2, rfl, rfl, rfl, h2, r2⟩ := trodAll_cons r1
  obtain ⟨rfl, rfl, rfl⟩ := trodAll_nil r2
  obtain rfl : args = #[v0, v1, v2] := by cases args; simp_all
  obtain ⟨rfl, rfl⟩ := trodVars_none hV
  obtain ⟨n0, rfl, rfl, rfl, w0⟩ := open_int Try.underlying23 (hval 0 23 v0 rfl rfl) h0
  obtain ⟨n1, rfl, rfl, rfl, w1⟩ := open_int Try.underlying23 (hval 1 23 v1 rfl rfl) h1
  obtain ⟨n2, rfl, rfl, rfl, w2⟩ := open_int Try.underlying3 (hval 2 3 v2 rfl rfl) h2
  clear hA0 hval0
  simp only [List.append_nil] at hW'
  refine (hashWithin_walk n0 (bounds_u32 w0).1 (bounds_u32 w0).2 n1 (bounds_u32 w1).1 (bounds_u32 w1).2 n2 (bounds_i64 w2).1 (bounds_i64 w2).2 W).mono fun e W' ⟨he, hg⟩ => ?_
  subst he
  exact ⟨_, rfl, post_of_none hW' (fun _ _ _ => (trodAll_cons_mk (shut_bool Try.underlying4 _) trodAll_mk0)) (fun sp => (trodAll_cons_mk (shut_int Try.underlying23 w0) (trodAll_cons_mk (shut_int Try.underlying23 w1) (trodAll_cons_mk (shut_int Try.underlying3 w2) trodAll_mk0)))) (fun _ => rfl)
    hg.1 (ok_one (by kernel_rfl) rfl (okWide_bool_mk Try.underlying4 _))⟩

theorem hashWithin_holds : Rows.HashWithinSaid :=
  OpenClaim.holds_of_wide 8 Try.f8 rfl rfl rfl rfl rfl rfl rfl ⟨rfl, rfl, rfl, rfl, rfl⟩ rfl rfl rfl rfl rfl (by kernel_rfl) Try.func8 (by kernel_rfl)
    (of_decide_eq_true (by kernel_rfl)) (by unfold Func.isWrapper; first | (rw [if_pos (by decide +kernel)]; kernel_rfl) | (rw [if_neg (by decide +kernel)]; exact ⟨rfl, rfl⟩))
    (fun os started H enc _ => hashWithin_lifted os started H enc)

#print axioms hashWithin_holds

end Go.Proofs.Ytkffoamdlgfcgaa
