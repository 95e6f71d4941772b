/- The law TrieNames: the examples; prefixes at both ends; each error; tries of nil, and such as nobody made. A closed statement. -/
import Derived.Test.YtjnccpbedffijaaJGrown
import Derived.Test.YtjnccpbedffijaaSMake
import Derived.Test.YtjnccpbedffijaaOpen
import Derived.Test.YtjnccpbedffijaaSOpen
import Derived.StillTailTactics
import Derived.Deep.QuietTactic
namespace Go.Proofs.Ytjnccpbedffijaa
set_option linter.unusedVariables false
open Go.ChangeShapes Go.WideShapes Go.ChangeAt Go.RowKit Go.Joins
open Go.ChangeMaps (open_string shut_string)

abbrev kff : ByteArray := ⟨#[255]⟩
abbrev kff80 : ByteArray := ⟨#[255, 128]⟩
def Z32 : ByteArray := ⟨#[0, 0, 0, 0, 0, 0, 0, 0, 0, 0, 0, 0, 0, 0, 0, 0, 0, 0, 0, 0, 0, 0, 0, 0, 0, 0, 0, 0, 0, 0, 0, 0]⟩
abbrev bff : List Bool := [true, true, true, true, true, true, true, true]
abbrev bff80 : List Bool := [true, true, true, true, true, true, true, true, true]
def bz : List Bool := List.replicate 256 false
theorem isKey_ff : IsKey kff bff := ⟨by decide, rfl, by decide⟩
theorem isKey_ff80 : IsKey kff80 bff80 := ⟨by decide, rfl, by decide⟩
theorem Z32_size : Z32.size = 32 := rfl
theorem isKey_z : IsKey Z32 bz := ⟨by decide +kernel, by decide +kernel, by decide +kernel⟩
theorem bz_len : (256 : Int) = (bz.length : Int) := by
  have h : bz.length = 256 := List.length_replicate
  omega
def trN1 : Tr := Tr.nil.put bz (-1)
def trN2 : Tr := trN1.put bff 5
def trN3 : Tr := trN2.put bff80 0
def trN4 : Tr := trN3.put bff 6
def trN5 : Tr := trN4.del bff
theorem trN1_e : Tr.nil.put bz (-1) = trN1 := rfl
theorem trN2_e : trN1.put bff 5 = trN2 := rfl
theorem trN3_e : trN2.put bff80 0 = trN3 := rfl
theorem trN4_e : trN3.put bff 6 = trN4 := rfl
theorem trN5_e : trN4.del bff = trN5 := rfl
theorem ctN0 : Tr.nil.count < 1000000 := by decide
theorem ctN1 : trN1.count < 1000000 := by decide +kernel
theorem ctN2 : trN2.count < 1000000 := by decide +kernel
theorem ctN3 : trN3.count < 1000000 := by decide +kernel
theorem ctN4 : trN4.count < 1000000 := by decide +kernel
theorem ctN4' : trN4.count = 3 := by decide +kernel
theorem ctN5' : trN5.count = 2 := by decide +kernel
theorem ctN5 : trN5.count < 1000000 := by decide +kernel
theorem ckN0 : checkN (Z32 ++ zeroB) 257 = 1 ∧ (1 : Int) ≠ 0 := ⟨by decide +kernel, by decide⟩
theorem ckN1 : checkN ⟨#[]⟩ (-1) = 1 ∧ (1 : Int) ≠ 0 := ⟨by decide, by decide⟩
theorem ckN2 : checkN ⟨#[0]⟩ (-1) = 1 ∧ (1 : Int) ≠ 0 := ⟨by decide, by decide⟩
theorem ckN3 : checkN ⟨#[]⟩ 1 = 3 ∧ (3 : Int) ≠ 0 := ⟨by decide, by decide⟩
theorem ckN4 : checkN ⟨#[0]⟩ 9 = 3 ∧ (3 : Int) ≠ 0 := ⟨by decide, by decide⟩
theorem ckN5 : checkN ⟨#[1]⟩ 7 = 3 ∧ (3 : Int) ≠ 0 := ⟨by decide, by decide⟩
theorem ckN6 : checkN ⟨#[0, 0]⟩ 8 = 3 ∧ (3 : Int) ≠ 0 := ⟨by decide, by decide⟩
theorem bdN : ∀ n : Int, -1 ≤ n → n ≤ 1000 → -9223372036854775808 ≤ n ∧ n ≤ 9223372036854775807 := fun n h1 h2 => ⟨by omega, by omega⟩
theorem bd257 : -9223372036854775808 ≤ (257 : Int) ∧ (257 : Int) ≤ 9223372036854775807 := bdN 257 (by decide) (by decide)
theorem bdm1 : -9223372036854775808 ≤ (-1 : Int) ∧ (-1 : Int) ≤ 9223372036854775807 := bdN (-1) (by decide) (by decide)
theorem bd1 : -9223372036854775808 ≤ (1 : Int) ∧ (1 : Int) ≤ 9223372036854775807 := bdN 1 (by decide) (by decide)
theorem bd7 : -9223372036854775808 ≤ (7 : Int) ∧ (7 : Int) ≤ 9223372036854775807 := bdN 7 (by decide) (by decide)
theorem bd8 : -9223372036854775808 ≤ (8 : Int) ∧ (8 : Int) ≤ 9223372036854775807 := bdN 8 (by decide) (by decide)
theorem bd9 : -9223372036854775808 ≤ (9 : Int) ∧ (9 : Int) ≤ 9223372036854775807 := bdN 9 (by decide) (by decide)
theorem szN0 : (Z32 ++ zeroB).size < 1000000 := by rw [ByteArray.size_append]; decide +kernel
theorem szN1 : (Z32 ++ ⟨#[97, 98, 99]⟩).size < 1000000 := by rw [ByteArray.size_append]; decide +kernel
theorem szN2 : (Z32.extract 0 31).size < 1000000 := by decide +kernel
theorem lgN0 : numJ (trN4.longest (bitL (Z32 ++ ⟨#[97, 98, 99]⟩))) = 256 ∧ valJ (trN4.longest (bitL (Z32 ++ ⟨#[97, 98, 99]⟩))) = -1 ∧ (trN4.longest (bitL (Z32 ++ ⟨#[97, 98, 99]⟩))).isSome = true := by decide +kernel
theorem lgN1 : numJ (trN4.longest (bitL ⟨#[255, 255]⟩)) = 9 ∧ valJ (trN4.longest (bitL ⟨#[255, 255]⟩)) = 0 ∧ (trN4.longest (bitL ⟨#[255, 255]⟩)).isSome = true := by decide +kernel
theorem lgN2 : numJ (trN4.longest (bitL (Z32.extract 0 31))) = 0 ∧ valJ (trN4.longest (bitL (Z32.extract 0 31))) = 0 ∧ (trN4.longest (bitL (Z32.extract 0 31))).isSome = false := by decide +kernel
theorem lgN3 : numJ (trN4.longest (bitL ⟨#[255, 0]⟩)) = 8 ∧ valJ (trN4.longest (bitL ⟨#[255, 0]⟩)) = 6 ∧ (trN4.longest (bitL ⟨#[255, 0]⟩)).isSome = true := by decide +kernel
theorem lgN4 : numJ (trN5.longest (bitL ⟨#[255, 127]⟩)) = 0 ∧ valJ (trN5.longest (bitL ⟨#[255, 127]⟩)) = 0 ∧ (trN5.longest (bitL ⟨#[255, 127]⟩)).isSome = false := by decide +kernel
theorem gtN0 : getK trN4 kff 7 = none := by decide +kernel
theorem gtN1 : getK trN4 ⟨#[254]⟩ 7 = none := by decide +kernel
theorem gtN2 : getK trN4 kff 9 = none := by decide +kernel
theorem gtN3 : (trN4.get bff).isSome = true := by decide +kernel
theorem gtN4 : getK trN5 kff 8 = none := by decide +kernel
theorem gtN5 : (getK trN5 kff 8).getD 0 = 0 ∧ (getK trN5 kff 8).isSome = false := by decide +kernel
theorem gtN6 : (getK trN5 kff80 9).getD 0 = 0 ∧ (getK trN5 kff80 9).isSome = true := by decide +kernel
theorem jdelno_o {key : ByteArray} {n : Int} (hk : key.size < 1000000) (n0 : -9223372036854775808 ≤ n ∧ n ≤ 9223372036854775807) {A : Nat} {t : Tr} {T : TB} (ht : IsTrie A t T) {V w : World} {L : List Thing} (H : Own V w L) (hm : treeT T ∈ L) (hg : getK t key n = none) :
    Calls Try.prog 12 #[.pointer (some ⟨A, 0, none⟩), .string key, .int .i64 n] w fun e w' => e = .returned (.bool false) ∧ Own V w' L := by
  have h := H.tree hm
  have zf : Calls Try.prog 27 #[.pointer (some ⟨A, 0, none⟩), .string key, .int .i64 n] w fun e w' => e = .returned (.pointer none) ∧ Wider w w' := by
    by_cases c : checkN key n = 0
    · obtain ⟨k1, k2⟩ := isKey_of c
      obtain ⟨v, l, r, e⟩ := ht.root
      have zf := jfind_c k1 k2 (e ▸ h)
      rw [← e] at zf
      have e1 : T.tr.get (bitsK key n) = none := by
        rw [ht.get]
        unfold getK at hg
        rw [if_pos c] at hg
        exact hg
      rcases got_sub (T := T) (bs := bitsK key n) with ⟨_, e2⟩ | ⟨x, B, c2, l2, r2, e2, _, _⟩
      · rw [e2] at zf; exact zf
      · rw [e1] at e2; cases e2
    · exact jfind_bad hk n0.1 n0.2 c
  exact (jdel_nil zf).mono fun e w' ⟨he, g⟩ => ⟨he, H.quiet g⟩
theorem nget_c {w : World} : Calls Try.prog 13 #[.pointer none, .string ⟨#[]⟩, .int .i64 0] w fun e w' => e = .returned (.tuple #[.int .i64 0, .bool false]) ∧ Wider w w' := jget_nil jfind_none
theorem nlong_c (s : ByteArray) {w : World} : Calls Try.prog 11 #[.pointer none, .string s] w fun e w' => e = .returned (.tuple #[.int .i64 0, .int .i64 0, .bool false]) ∧ Wider w w' := jlongest_nil s
theorem ndel_c {w : World} : Calls Try.prog 12 #[.pointer none, .string ⟨#[]⟩, .int .i64 0] w fun e w' => e = .returned (.bool false) ∧ Wider w w' := jdel_nil jfind_none
theorem nall_c {w : World} : Calls Try.prog 14 #[.pointer none] w fun e w' => e = .returned (.slice none 0 0) ∧ Wider w w' := jall_nil (Own.nil (Wider.refl w))
set_option maxRecDepth 20000 in
set_option maxHeartbeats 16000000 in
theorem trieNames_walk (w : World) : Calls Try.prog 3 #[] w fun e w' => e = .returned (.bool true) ∧ Wider w w' := by
  have H : Own w w [] := Own.nil (Wider.refl w)
  go_enter Try.func3, Try.ntmps3
  go_upto_region 3 with (first
    | (go_at_call 8; ((with_reducible refine (awake11_c _).mono ?_); rintro e wa ⟨rfl, g⟩; replace H := H.quiet g; clear g)))
  have H1 : Own w (wa.alloc (.cells #[.pointer none, .pointer none, .int .i64 0, .bool false, .int .i64 0] 29)) [treeT (.node wa.heap.size (some 0) none .nil .nil)] :=
    (H.blk #[.pointer none, .pointer none, .int .i64 0, .bool false, .int .i64 0] 29).noTree.noTree.third.treeShut rfl rfl
  obtain ⟨T, hT⟩ : ∃ T, TB.node wa.heap.size (some 0) none .nil .nil = T := ⟨_, rfl⟩
  have HT : Hid (IsTrie wa.heap.size .nil T) := Lib.hid (hT ▸ isTrie_new _)
  obtain ⟨A, hA⟩ : ∃ A, wa.heap.size = A := ⟨_, rfl⟩
  rw [hT] at H1
  rw [hA] at HT
  clear hT H
  obtain ⟨W, hW⟩ : ∃ W, wa.alloc (.cells #[.pointer none, .pointer none, .int .i64 0, .bool false, .int .i64 0] 29) = W := ⟨_, rfl⟩
  rw [hW] at H1
  go_upto_region 4 with (fail)
  try rw [hW]
  try rw [hA]
  have hmk := makeN 32 (by decide) W
  have hcv := (Bts.made W 32).conv 32 (T := Z32) (by decide +kernel)
  have H := H1.quiet ((Wider.refl W).alloc (.cells (zerosN 32) 5))
  have hmk : (Instr.makeSlice 30 (.int .i64 32) (.int .i64 32)).run Try.prog W = .ok (.slice (some ⟨W.heap.size, 0, none⟩) 32 32) (W.alloc (.cells (zerosN 32) 5)) := hmk
  clear H1 hW hA
  have zs := Z32_size
  have zs2 : zeroB.size = 1 := rfl
  have zs3 : (⟨#[97, 98, 99]⟩ : ByteArray).size = 3 := rfl
  go_upto_region 7 with (first
    | (go_at_call 9; ((with_reducible refine (jput_c isKey_z bz_len (-1) HT.out ctN0 H).mono ?_); clear H; rintro e w5 ⟨rfl, T2, ht, H⟩; rw [trN1_e] at ht; clear HT; have HT := Lib.hid ht; clear ht))
    | (go_at_call 9; ((with_reducible refine (jputbad_o szN0 bd257 ckN0 1 H).mono ?_); clear H; rintro e w5 ⟨rfl, H⟩))
    | (go_at_call 9; ((with_reducible refine (jputbad_o (by decide) bdm1 ckN1 1 H).mono ?_); clear H; rintro e w5 ⟨rfl, H⟩))
    | (go_at_call 9; ((with_reducible refine (jputbad_o (by decide) bdm1 ckN2 1 H).mono ?_); clear H; rintro e w5 ⟨rfl, H⟩))
    | (go_at_call 9; ((with_reducible refine (jputbad_o (by decide) bd1 ckN3 1 H).mono ?_); clear H; rintro e w5 ⟨rfl, H⟩))
    | (go_at_call 9; ((with_reducible refine (jputbad_o (by decide) bd9 ckN4 1 H).mono ?_); clear H; rintro e w5 ⟨rfl, H⟩))
    | (go_at_call 9; ((with_reducible refine (jputbad_o (by decide) bd7 ckN5 1 H).mono ?_); clear H; rintro e w5 ⟨rfl, H⟩))
    | (go_at_call 9; ((with_reducible refine (jputbad_o (by decide) bd8 ckN6 1 H).mono ?_); clear H; rintro e w5 ⟨rfl, H⟩))
    | (go_at_call 9; ((with_reducible refine (jput_c isKey_ff (n := 8) rfl 5 HT.out ctN1 H).mono ?_); clear H; rintro e w5 ⟨rfl, T2, ht, H⟩; rw [trN2_e] at ht; clear HT; have HT := Lib.hid ht; clear ht))
    | (go_at_call 9; ((with_reducible refine (jput_c isKey_ff80 (n := 9) rfl 0 HT.out ctN2 H).mono ?_); clear H; rintro e w5 ⟨rfl, T2, ht, H⟩; rw [trN3_e] at ht; clear HT; have HT := Lib.hid ht; clear ht))
    | (go_at_call 9; ((with_reducible refine (jput_c isKey_ff (n := 8) rfl 6 HT.out ctN3 H).mono ?_); clear H; rintro e w5 ⟨rfl, T2, ht, H⟩; rw [trN4_e] at ht; clear HT; have HT := Lib.hid ht; clear ht))
    | (go_at_call 10; ((with_reducible refine (jlen_o HT.out H mem1 ctN4').mono ?_); clear H; rintro e w5 ⟨rfl, H⟩)))
  go_upto_region 11 with (first
    | (go_at_call 11; ((with_reducible refine (jlongest_o (key := Z32 ++ ⟨#[97, 98, 99]⟩) szN1 HT.out H mem1 lgN0).mono ?_); clear H; rintro e w5 ⟨rfl, H⟩))
    | (go_at_call 11; ((with_reducible refine (jlongest_o (key := ⟨#[255, 255]⟩) (by decide) HT.out H mem1 lgN1).mono ?_); clear H; rintro e w5 ⟨rfl, H⟩))
    | (go_at_call 11; ((with_reducible refine (jlongest_o (key := Z32.extract 0 31) szN2 HT.out H mem1 lgN2).mono ?_); clear H; rintro e w5 ⟨rfl, H⟩))
    | (go_at_call 11; ((with_reducible refine (jlongest_o (key := ⟨#[255, 0]⟩) (by decide) HT.out H mem1 lgN3).mono ?_); clear H; rintro e w5 ⟨rfl, H⟩)))
  go_upto_region 13 with (first
    | (go_at_call 12; ((with_reducible refine (jdelno_o (key := kff) (by decide) bd7 HT.out H mem1 gtN0).mono ?_); clear H; rintro e w5 ⟨rfl, H⟩))
    | (go_at_call 12; ((with_reducible refine (jdelno_o (key := ⟨#[254]⟩) (by decide) bd7 HT.out H mem1 gtN1).mono ?_); clear H; rintro e w5 ⟨rfl, H⟩))
    | (go_at_call 12; ((with_reducible refine (jdelno_o (key := kff) (by decide) bd9 HT.out H mem1 gtN2).mono ?_); clear H; rintro e w5 ⟨rfl, H⟩))
    | (go_at_call 12; ((with_reducible refine (jdel_c isKey_ff (n := 8) rfl HT.out ctN4 H gtN3).mono ?_); clear H; rintro e w5 ⟨rfl, T2, ht, H⟩; rw [trN5_e] at ht; clear HT; have HT := Lib.hid ht; clear ht))
    | (go_at_call 12; ((with_reducible refine (jdelno_o (key := kff) (by decide) bd8 HT.out H mem1 gtN4).mono ?_); clear H; rintro e w5 ⟨rfl, H⟩))
    | (go_at_call 10; ((with_reducible refine (jlen_o HT.out H mem1 ctN5').mono ?_); clear H; rintro e w5 ⟨rfl, H⟩)))
  go_wp2_with (first
    | (go_at_call 13; ((with_reducible refine (jget_o (key := kff) (by decide) bd8.1 bd8.2 HT.out H mem1 gtN5).mono ?_); clear H; rintro e w5 ⟨rfl, H⟩))
    | (go_at_call 13; ((with_reducible refine (jget_o (key := kff80) (by decide) bd9.1 bd9.2 HT.out H mem1 gtN6).mono ?_); clear H; rintro e w5 ⟨rfl, H⟩))
    | (go_at_call 11; ((with_reducible refine (jlongest_o (key := ⟨#[255, 127]⟩) (by decide) HT.out H mem1 lgN4).mono ?_); clear H; rintro e w5 ⟨rfl, H⟩))
    | (go_at_call 13; ((with_reducible refine (nget_c).mono ?_); rintro e w5 ⟨rfl, g⟩; replace H := H.quiet g; clear g))
    | (go_at_call 11; ((with_reducible refine (nlong_c _).mono ?_); rintro e w5 ⟨rfl, g⟩; replace H := H.quiet g; clear g))
    | (go_at_call 9; ((with_reducible refine (jput_nil).mono ?_); rintro e w5 ⟨rfl, g⟩; replace H := H.quiet g; clear g))
    | (go_at_call 12; ((with_reducible refine (ndel_c).mono ?_); rintro e w5 ⟨rfl, g⟩; replace H := H.quiet g; clear g))
    | (go_at_call 10; ((with_reducible refine (jlen_nil).mono ?_); rintro e w5 ⟨rfl, g⟩; replace H := H.quiet g; clear g))
    | (go_at_call 14; ((with_reducible refine (nall_c).mono ?_); rintro e w5 ⟨rfl, g⟩; replace H := H.quiet g; clear g))
    | (go_at_call 15; ((with_reducible refine (jcopy_nil).mono ?_); rintro e w5 ⟨rfl, g⟩; replace H := H.quiet g; clear g)))
  go_ret
  exact ⟨rfl, H.wider⟩
set_option maxRecDepth 100000 in
theorem trieNames_lifted (os : Os) (started : os.Started) (H : Type) (enc : TypeId × Value → H) :
    ReturnsInHanded {} Try.checked os 3 .any (Rows.trieNamesSpec.pre6 enc Try.prog Try.f3 Rows.trieNamesRow.domain false) (Rows.trieNamesSpec.post enc Try.prog Try.f3 false true false false) := by
  refine returnsInHanded_of_change (C := Try.checked) own started (by kernel_rfl) Try.func3
    (ChangeSpec.witness6 (enc := enc) (C := Try.checked) false ⟨#[], #[], []⟩ 8 (by kernel_rfl) (by kernel_rfl) (by kernel_rfl) (by kernel_rfl)) ?_
  intro W base args ds gs before hval0 hW hcnd _
  have hval : ∀ (j : Nat) t v, Try.f3.params[j]? = some t → args[j]? = some v → Value.okWide Try.prog W .any base t v := hval0
  have hW' := hW
  obtain ⟨p, q, hA0, hV, rfl, hfz, hnd⟩ := hW
  have hA : DataW.TrodAll enc Try.prog W 0 (fun _ => true) true Try.f3.params.toList args.toList ds p := hA0
  rw [Try.params3] at hA hval
  obtain ⟨hargs, rfl, rfl⟩ := trodAll_nil hA
  obtain rfl : args = #[] := by cases args; simp_all
  obtain ⟨rfl, rfl⟩ := trodVars_none hV
  clear hA0 hval0
  simp only [List.append_nil] at hW'
  refine (trieNames_walk  W).mono fun e W' ⟨he, hg⟩ => ?_
  subst he
  exact ⟨_, rfl, post_of_none hW' (fun _ _ _ => (trodAll_cons_mk (shut_bool Try.underlying4 _) trodAll_mk0)) (fun sp => trodAll_mk0) (fun _ => rfl)
    hg.1 (ok_one (by kernel_rfl) rfl (okWide_bool_mk Try.underlying4 _))⟩

theorem trieNames_holds : Rows.TrieNamesSaid :=
  OpenClaim.holds_of_wide 3 Try.f3 rfl rfl rfl rfl rfl rfl rfl ⟨rfl, rfl, rfl, rfl, rfl⟩ rfl rfl rfl rfl rfl (by kernel_rfl) Try.func3 (by kernel_rfl)
    (of_decide_eq_true (by kernel_rfl)) (by unfold Func.isWrapper; first | (rw [if_pos (by decide +kernel)]; kernel_rfl) | (rw [if_neg (by decide +kernel)]; exact ⟨rfl, rfl⟩))
    (fun os started H enc _ => trieNames_lifted os started H enc)

#print axioms trieNames_holds

end Go.Proofs.Ytjnccpbedffijaa
