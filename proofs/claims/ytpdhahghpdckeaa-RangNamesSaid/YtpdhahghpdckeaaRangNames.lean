/- The examples; widths at both ends; each error; sets of nil: the statement's function returns true. -/
import Derived.Test.YtpdhahghpdckeaaVThree
import Derived.Test.YtpdhahghpdckeaaOpen
import Derived.Test.YtpdhahghpdckeaaSOpen
namespace Go.Proofs.Ytpdhahghpdckeaa
set_option linter.unusedVariables false
open Go.ChangeShapes Go.WideShapes Go.ChangeAt Go.RowKit Go.Joins

/-! ### Sets of nil -/
theorem vfind_nil (key : ByteArray) (w : World) : Calls Try.prog 11 #[.pointer none, .string key] w fun e w' => e = .returned (.tuple #[.int .i64 0, .bool false]) ∧ Wider w w' := by
  go_enter Try.func11, Try.ntmps11
  go_wp2
  simp [bodyPost, results, Try.results11, go_sem]
  exact Wider.refl w
theorem vput_nil (a b : ByteArray) (p v : Int) (w : World) : Calls Try.prog 10 #[.pointer none, .string a, .string b, .int .i64 p, .int .i64 v] w fun e w' => e = .returned (.int .i64 2) ∧ Wider w w' := by
  go_enter Try.func10, Try.ntmps10
  go_wp2
  go_ret
  exact ⟨rfl, Wider.refl w⟩
theorem vdel_nil (a b : ByteArray) (p : Int) (w : World) : Calls Try.prog 12 #[.pointer none, .string a, .string b, .int .i64 p] w fun e w' => e = .returned (.bool false) ∧ Wider w w' := by
  have g := (((Wider.refl w).alloc (.cells #[.string a] 9)).alloc (.cells #[.string b] 9)).alloc (.cells #[.int .i64 p] 3)
  go_enter Try.func12, Try.ntmps12
  go_wp2
  go_ret
  exact ⟨rfl, g⟩
theorem vlen_nil (w : World) : Calls Try.prog 13 #[.pointer none] w fun e w' => e = .returned (.int .i64 0) ∧ Wider w w' := by
  go_enter Try.func13, Try.ntmps13
  go_wp2
  go_ret
  exact ⟨rfl, Wider.refl w⟩
theorem vall_nil (w : World) : Calls Try.prog 14 #[.pointer none] w fun e w' => e = .returned (.slice none 0 0) ∧ Wider w w' := by
  go_enter Try.func14, Try.ntmps14
  go_wp2
  go_ret
  exact ⟨rfl, Wider.refl w⟩
theorem vcopy_nil (w : World) : Calls Try.prog 15 #[.pointer none] w fun e w' => e = .returned (.pointer none) ∧ Wider w w' := by
  go_enter Try.func15, Try.ntmps15
  go_wp2
  go_ret
  exact ⟨rfl, Wider.refl w⟩
theorem ints_lit (w : World) (zs : List Int) : IntsAt (w.alloc (.cells (zs.map (Value.int .i64)).toArray 3)) (some ⟨w.heap.size, 0, none⟩) zs := fun j n h => by
  refine ⟨_, rfl, ?_⟩
  rw [World.cell?_alloc_new, List.getElem?_toArray, List.getElem?_map, h]; rfl
/-! ### The texts -/
def loN : ByteArray := mkB (List.replicate 64 0)
def hiN : ByteArray := mkB (List.replicate 64 255)
abbrev q1N : ItR := ⟨loN, hiN, -5, 1⟩
abbrev q2N : ItR := ⟨hiN, hiN, -9223372036854775808, 2⟩
abbrev q3N : ItR := ⟨loN, loN, 9223372036854775807, -3⟩
theorem nf1 : FormR [16, 16, 16, 16] q1N := ⟨by kernel_rfl, by kernel_rfl, by kernel_rfl⟩
theorem nf2 : FormR [16, 16, 16, 16] q2N := ⟨by kernel_rfl, by kernel_rfl, by kernel_rfl⟩
theorem nf3 : FormR [16, 16, 16, 16] q3N := ⟨by kernel_rfl, by kernel_rfl, by kernel_rfl⟩
theorem nl1 : butR [] q1N ++ [q1N] = [q1N] := rfl
theorem nl2 : butR [q1N] q2N ++ [q2N] = [q1N, q2N] := by kernel_rfl
theorem nl3 : butR [q1N, q2N] q3N ++ [q3N] = [q1N, q2N, q3N] := by kernel_rfl
theorem nb1 : ¬ FormR [16, 16, 16, 16] ⟨hiN, loN, 0, 1⟩ := fun h => by
  have e : inK [16, 16, 16, 16] hiN ⟨hiN, loN, 0, 1⟩ = false := by kernel_rfl
  exact absurd (e.symm.trans h.2.2) (by decide)
theorem lo_size : loN.size = 64 := by kernel_rfl
theorem hi_size : hiN.size = 64 := by kernel_rfl
theorem nb2 : ¬ FormR [16, 16, 16, 16] ⟨loN.extract 1 64, hiN, 0, 1⟩ := fun h => by
  have e : (loN.extract 1 64).size = 63 := by kernel_rfl
  exact absurd (e.symm.trans h.1) (by decide)
theorem nb3 : ¬ FormR [16, 16, 16, 16] ⟨loN, hiN ++ ⟨#[97]⟩, 0, 1⟩ := fun h => by
  have e : (hiN ++ ⟨#[97]⟩ : ByteArray).size = 65 := by rw [ByteArray.size_append, hi_size]; rfl
  exact absurd (e.symm.trans h.2.1) (by decide)
theorem nb4 : ¬ FormR [16, 16, 16, 16] ⟨⟨#[]⟩, ⟨#[]⟩, 0, 1⟩ := fun h => absurd h.1 (by decide)
theorem nv1 : numR (findR [16, 16, 16, 16] hiN [q1N, q2N, q3N]) = 1 := by kernel_rfl
theorem nv1b : (findR [16, 16, 16, 16] hiN [q1N, q2N, q3N]).isSome = true := by kernel_rfl
theorem nv2 : numR (findR [16, 16, 16, 16] loN [q1N, q2N, q3N]) = -3 := by kernel_rfl
theorem nv2b : (findR [16, 16, 16, 16] loN [q1N, q2N, q3N]).isSome = true := by kernel_rfl
theorem nv3 : numR (findR [16, 16, 16, 16] (loN.extract 1 64) [q1N, q2N, q3N]) = 0 := by kernel_rfl
theorem nv3b : (findR [16, 16, 16, 16] (loN.extract 1 64) [q1N, q2N, q3N]).isSome = false := by kernel_rfl
theorem nv4 : numR (findR [16, 16, 16, 16] ⟨#[]⟩ [q1N, q2N, q3N]) = 0 := by kernel_rfl
theorem nv4b : (findR [16, 16, 16, 16] ⟨#[]⟩ [q1N, q2N, q3N]).isSome = false := by kernel_rfl
theorem nv5 : numR (findR [16, 16, 16, 16] hiN [q2N, q3N]) = 2 := by kernel_rfl
theorem nv5b : (findR [16, 16, 16, 16] hiN [q2N, q3N]).isSome = true := by kernel_rfl
theorem nd1 : decide (∃ y ∈ [q1N, q2N, q3N], SameR y ⟨loN, hiN, 5, 0⟩) = false := by kernel_rfl
theorem nd1b : butR [q1N, q2N, q3N] ⟨loN, hiN, 5, 0⟩ = [q1N, q2N, q3N] := by kernel_rfl
theorem nd2 : decide (∃ y ∈ [q1N, q2N, q3N], SameR y ⟨loN, hiN, -5, 0⟩) = true := by kernel_rfl
theorem nd2b : butR [q1N, q2N, q3N] ⟨loN, hiN, -5, 0⟩ = [q2N, q3N] := by kernel_rfl
theorem nd3 : decide (∃ y ∈ [q2N, q3N], SameR y ⟨loN, hiN, -5, 0⟩) = false := by kernel_rfl
theorem nd3b : butR [q2N, q3N] ⟨loN, hiN, -5, 0⟩ = [q2N, q3N] := by kernel_rfl
theorem conv_lo : strOfNums ((List.range 64).map fun _ => (0 : Int)) = loN := by kernel_rfl
set_option maxRecDepth 100000 in
set_option maxHeartbeats 16000000 in
theorem rangNames_walk (w : World) : Calls Try.prog 3 #[] w fun e w' => e = .returned (.bool true) ∧ Wider w w' := by
  have H : Own w w [] := Own.nil (Wider.refl w)
  have hmk : ∀ W : World, (Instr.makeSlice 28 (.int .i64 64) (.int .i64 64)).run Try.prog W = .ok (.slice (some ⟨W.heap.size, 0, none⟩) 64 64) (W.alloc (.cells (zerosN 64) 5)) := makeN 64 (by omega)
  have hcv : ∀ W : World, (convert 28 9 (.slice (some ⟨W.heap.size, 0, none⟩) 64 64)).run Try.prog (W.alloc (.cells (zerosN 64) 5)) = .ok (.string loN) (W.alloc (.cells (zerosN 64) 5)) := fun W => (Bts.made W 64).conv 64 conv_lo
  have z0 := fun (W : World) => vnewbad_c (w := W) (A := none) (n := 0) (c := 0) (zs := []) (fun j z h => by simp at h) rfl (by decide) (.inl (by decide))
  have z5 : ∀ W : World, Calls Try.prog 9 #[.slice (some ⟨W.heap.size, 0, none⟩) 5 5] (W.alloc (.cells #[.int .i64 1, .int .i64 1, .int .i64 1, .int .i64 1, .int .i64 1] 3)) fun e w' => e = .returned (.tuple #[.pointer none, .int .i64 1]) ∧ Wider (W.alloc (.cells #[.int .i64 1, .int .i64 1, .int .i64 1, .int .i64 1, .int .i64 1] 3)) w' := fun W => vnewbad_c (ints_lit W [1, 1, 1, 1, 1]) rfl (by decide) (.inr (.inl (by decide)))
  have z2 : ∀ W : World, Calls Try.prog 9 #[.slice (some ⟨W.heap.size, 0, none⟩) 2 2] (W.alloc (.cells #[.int .i64 1, .int .i64 0] 3)) fun e w' => e = .returned (.tuple #[.pointer none, .int .i64 1]) ∧ Wider (W.alloc (.cells #[.int .i64 1, .int .i64 0] 3)) w' := fun W => vnewbad_c (ints_lit W [1, 0]) rfl (by decide) (.inr (.inr ⟨0, by decide, .inl (by decide)⟩))
  have z1 : ∀ W : World, Calls Try.prog 9 #[.slice (some ⟨W.heap.size, 0, none⟩) 1 1] (W.alloc (.cells #[.int .i64 17] 3)) fun e w' => e = .returned (.tuple #[.pointer none, .int .i64 1]) ∧ Wider (W.alloc (.cells #[.int .i64 17] 3)) w' := fun W => vnewbad_c (ints_lit W [17]) rfl (by decide) (.inr (.inr ⟨17, by decide, .inr (by decide)⟩))
  have z3 : ∀ W : World, Calls Try.prog 9 #[.slice (some ⟨W.heap.size, 0, none⟩) 2 2] (W.alloc (.cells #[.int .i64 (-1), .int .i64 5] 3)) fun e w' => e = .returned (.tuple #[.pointer none, .int .i64 1]) ∧ Wider (W.alloc (.cells #[.int .i64 (-1), .int .i64 5] 3)) w' := fun W => vnewbad_c (ints_lit W [-1, 5]) rfl (by decide) (.inr (.inr ⟨-1, by decide, .inl (by decide)⟩))
  have z4 : ∀ (W : World) (h : Own w W []), Calls Try.prog 9 #[.slice (some ⟨W.heap.size, 0, none⟩) 4 4] (W.alloc (.cells #[.int .i64 16, .int .i64 16, .int .i64 16, .int .i64 16] 3)) fun e w' => ∃ S, e = .returned (.tuple #[.pointer (some ⟨S, 0, none⟩), .int .i64 0]) ∧ RangIs w w' [] S [16, 16, 16, 16] [] 0 := fun W h => vnew_o (h.quiet ((Wider.refl W).alloc _)) (widths_lit W [16, 16, 16, 16]) rfl (by decide) (by decide) (by decide)
  go_enter Try.func3, Try.ntmps3
  go_upto_region 10 with (first
    | (go_at_call 8; ((with_reducible refine (awake13_c _).mono ?_); rintro e wa ⟨rfl, g⟩; replace H := H.quiet g; clear g))
    | (go_at_call 9; ((with_reducible refine (z0 _).mono ?_); rintro e w0 ⟨rfl, g⟩; replace H := H.quiet g; clear g z0))
    | (go_at_call 9; ((with_reducible refine (z5 _).mono ?_); rintro e w5 ⟨rfl, g⟩; replace H := H.quiet (((Wider.refl _).alloc _).trans g); clear g z5))
    | (go_at_call 9; ((with_reducible refine (z2 _).mono ?_); rintro e w2 ⟨rfl, g⟩; replace H := H.quiet (((Wider.refl _).alloc _).trans g); clear g z2))
    | (go_at_call 9; ((with_reducible refine (z1 _).mono ?_); rintro e w1 ⟨rfl, g⟩; replace H := H.quiet (((Wider.refl _).alloc _).trans g); clear g z1))
    | (go_at_call 9; ((with_reducible refine (z3 _).mono ?_); rintro e w3 ⟨rfl, g⟩; replace H := H.quiet (((Wider.refl _).alloc _).trans g); clear g z3))
    | (go_at_call 9; ((with_reducible refine (z4 _ H).mono ?_); rintro e w4 ⟨S, rfl, K⟩; clear z4 H)))
  have K1 := K.quiet ((Wider.refl w4).alloc (.cells (zerosN 64) 5))
  obtain ⟨W, hW⟩ : ∃ W, w4.alloc (.cells (zerosN 64) 5) = W := ⟨_, rfl⟩
  rw [hW] at K1
  try rw [hW]
  clear hW hmk hcv K
  have x1 : (⟨#[255]⟩ : ByteArray).size = 1 := rfl
  have hadd : ∀ (j : Nat) (W : World), j < 64 → (Op.stringOp .add (mkB (List.replicate j 255)) ⟨#[255]⟩).run Try.prog W = .ok (.string (mkB (List.replicate (j + 1) 255))) W := fun j W hj => by
    rw [run_string_add_sum W _ _ (by rw [mkB_size, List.length_replicate, x1]; omega)]
    congr 2
    rw [show (⟨#[255]⟩ : ByteArray) = mkB [255] from rfl, mkB_append, List.replicate_succ']
  clear x1
  go_wp2
  go_loopw [14, 15] (fun a b wr => ∃ (j : Nat) (P : ByteArray), j ≤ 64 ∧ a = .string P ∧ b = .int .i64 (j : Int) ∧ Hid (mkB (List.replicate j 255) = P) ∧ wr = W) (fun _ b _ => 64 - (intOf b).toNat)
  case atStart => exact ⟨0, _, by omega, rfl, rfl, Lib.hid rfl, rfl⟩
  case round =>
    obtain ⟨j, P, hj0, rfl, rfl, HP, rfl⟩ := hrel
    by_cases d : j < 64
    · have p1 : (j : Int) < 64 := by omega
      obtain ⟨Q, hQ⟩ : ∃ Q, mkB (List.replicate (j + 1) 255) = Q := ⟨_, rfl⟩
      have ha := fun W => hadd j W d
      rw [HP.out, hQ] at ha
      have HQ := Lib.hid hQ
      clear hadd hQ
      go_wp2
      go_roundw
      case rel => exact ⟨j + 1, Q, by omega, rfl, by go_num, HQ, trivial⟩
      case measure => simp [intOf]; omega
    · obtain rfl : j = 64 := by omega
      have p1 : ¬ (((64 : Nat) : Int) < 64) := by omega
      obtain rfl : hiN = P := HP.out
      have ha : ∀ W : World, (Op.stringOp .add hiN ⟨#[97]⟩).run Try.prog W = .ok (.string (hiN ++ ⟨#[97]⟩)) W := fun W => by
        rw [run_string_add_sum W _ _ (by rw [hi_size]; decide)]
      obtain ⟨hA, hHA⟩ : ∃ q, hiN ++ ⟨#[97]⟩ = q := ⟨_, rfl⟩
      have b3 := nb3
      rw [hHA] at ha b3
      have sl := lo_size
      clear hadd hHA HP
      go_wp2_with (first
        | (go_at_call 10; ((with_reducible refine (vput_o K1 (by decide) nf1 nl1).mono ?_); rintro e w5 ⟨rfl, K2⟩; clear K1))
        | (go_at_call 10; ((with_reducible refine (vput_o K2 (by decide) nf2 nl2).mono ?_); rintro e w5 ⟨rfl, K3⟩; clear K2))
        | (go_at_call 10; ((with_reducible refine (vput_o K3 (by decide) nf3 nl3).mono ?_); rintro e w5 ⟨rfl, K4⟩; clear K3))
        | (go_at_call 10; ((with_reducible refine (vputbad_o K4 nb1).mono ?_); rintro e w5 ⟨rfl, g⟩; replace K4 := K4.quiet g; clear g))
        | (go_at_call 10; ((with_reducible refine (vputbad_o K4 nb2).mono ?_); rintro e w5 ⟨rfl, g⟩; replace K4 := K4.quiet g; clear g))
        | (go_at_call 10; ((with_reducible refine (vputbad_o K4 b3).mono ?_); rintro e w5 ⟨rfl, g⟩; replace K4 := K4.quiet g; clear g))
        | (go_at_call 10; ((with_reducible refine (vputbad_o K4 nb4).mono ?_); rintro e w5 ⟨rfl, g⟩; replace K4 := K4.quiet g; clear g))
        | (go_at_call 11; ((with_reducible refine (vfind_o K4 (by decide) nv1 nv1b).mono ?_); rintro e w5 ⟨rfl, g⟩; replace K4 := K4.quiet g; clear g))
        | (go_at_call 11; ((with_reducible refine (vfind_o K4 (by decide) nv2 nv2b).mono ?_); rintro e w5 ⟨rfl, g⟩; replace K4 := K4.quiet g; clear g))
        | (go_at_call 11; ((with_reducible refine (vfind_o K4 (by decide) nv3 nv3b).mono ?_); rintro e w5 ⟨rfl, g⟩; replace K4 := K4.quiet g; clear g))
        | (go_at_call 11; ((with_reducible refine (vfind_o K4 (by decide) nv4 nv4b).mono ?_); rintro e w5 ⟨rfl, g⟩; replace K4 := K4.quiet g; clear g))
        | (go_at_call 12; ((with_reducible refine (vdel_o K4 (by decide) nd1 nd1b).mono ?_); rintro e w5 ⟨rfl, K5⟩; clear K4))
        | (go_at_call 12; ((with_reducible refine (vdel_o K5 (by decide) nd2 nd2b).mono ?_); rintro e w5 ⟨rfl, K6⟩; clear K5))
        | (go_at_call 12; ((with_reducible refine (vdel_o K6 (by decide) nd3 nd3b).mono ?_); rintro e w5 ⟨rfl, K7⟩; clear K6))
        | (go_at_call 13; ((with_reducible refine (vlen_o K7 (n := 2) rfl).mono ?_); rintro e w5 ⟨rfl, g⟩; replace K7 := K7.quiet g; clear g))
        | (go_at_call 11; ((with_reducible refine (vfind_o K7 (by decide) nv5 nv5b).mono ?_); rintro e w5 ⟨rfl, g⟩; replace K7 := K7.quiet g; clear g))
        | (go_at_call 11; ((with_reducible refine (vfind_nil _ _).mono ?_); rintro e w5 ⟨rfl, g⟩; replace K7 := K7.quiet g; clear g))
        | (go_at_call 10; ((with_reducible refine (vput_nil _ _ _ _ _).mono ?_); rintro e w5 ⟨rfl, g⟩; replace K7 := K7.quiet g; clear g))
        | (go_at_call 12; ((with_reducible refine (vdel_nil _ _ _ _).mono ?_); rintro e w5 ⟨rfl, g⟩; replace K7 := K7.quiet g; clear g))
        | (go_at_call 13; ((with_reducible refine (vlen_nil _).mono ?_); rintro e w5 ⟨rfl, g⟩; replace K7 := K7.quiet g; clear g))
        | (go_at_call 14; ((with_reducible refine (vall_nil _).mono ?_); rintro e w5 ⟨rfl, g⟩; replace K7 := K7.quiet g; clear g))
        | (go_at_call 15; ((with_reducible refine (vcopy_nil _).mono ?_); rintro e w5 ⟨rfl, g⟩; replace K7 := K7.quiet g; clear g)))
      go_ret
      exact ⟨rfl, K7.wider⟩
set_option maxRecDepth 100000 in
theorem rangNames_lifted (os : Os) (started : os.Started) (H : Type) (enc : TypeId × Value → H) :
    ReturnsInHanded {} Try.checked os 3 .any (Rows.rangNamesSpec.pre6 enc Try.prog Try.f3 Rows.rangNamesRow.domain false) (Rows.rangNamesSpec.post enc Try.prog Try.f3 false true false false) := by
  refine returnsInHanded_of_change (C := Try.checked) own started (by kernel_rfl) Try.func3
    (ChangeSpec.witness6 (enc := enc) (C := Try.checked) false ⟨#[], #[], []⟩ 8 (by kernel_rfl) (by kernel_rfl) (by kernel_rfl) (by kernel_rfl)) ?_
  intro W base args ds gs before hval0 hW hcnd _
  have hval : ∀ (j : Nat) t v, Try.f3.params[j]? = some t → args[j]? = some v → Value.okWide Try.prog W .any base t v := hval0
  have hW' := hW
  obtain ⟨p, q, hA0, hV, rfl, hfz, hnd⟩ := hW
  have hA : DataW.TrodAll enc Try.prog W 0 (fun _ => true) true Try.f3.params.toList args.toList ds p := hA0
  rw [Try.params3] at hA hval
  obtain ⟨hargs, rfl, rfl⟩ := trodAll_nil hA
  obtain rfl : args = #[] := by cases args; simp_all
  obtain ⟨rfl, rfl⟩ := trodVars_none hV
  clear hA0 hval0
  simp only [List.append_nil] at hW'
  refine (rangNames_walk  W).mono fun e W' ⟨he, hg⟩ => ?_
  subst he
  exact ⟨_, rfl, post_of_none hW' (fun _ _ _ => (trodAll_cons_mk (shut_bool Try.underlying4 _) trodAll_mk0)) (fun sp => trodAll_mk0) (fun _ => rfl)
    hg.1 (ok_one (by kernel_rfl) rfl (okWide_bool_mk Try.underlying4 _))⟩

theorem rangNames_holds : Rows.RangNamesSaid :=
  OpenClaim.holds_of_wide 3 Try.f3 rfl rfl rfl rfl rfl rfl rfl ⟨rfl, rfl, rfl, rfl, rfl⟩ rfl rfl rfl rfl rfl (by kernel_rfl) Try.func3 (by kernel_rfl)
    (of_decide_eq_true (by kernel_rfl)) (by unfold Func.isWrapper; first | (rw [if_pos (by decide +kernel)]; kernel_rfl) | (rw [if_neg (by decide +kernel)]; exact ⟨rfl, rfl⟩))
    (fun os started H enc _ => rangNames_lifted os started H enc)

#print axioms rangNames_holds

end Go.Proofs.Ytpdhahghpdckeaa
