/- The law TernNames: the examples; ties; keys of no bytes; what is refused; nobody's set. A closed statement. -/
import Derived.Test.YtjjgdnaejeejlaaUIs
import Derived.Test.YtjjgdnaejeejlaaSMake
import Derived.Test.YtjjgdnaejeejlaaOpen
import Derived.Test.YtjjgdnaejeejlaaSOpen
import Derived.StillTailTactics
import Derived.Deep.QuietTactic
namespace Go.Proofs.Ytjjgdnaejeejlaa
set_option linter.unusedVariables false
open Go.ChangeShapes Go.WideShapes Go.ChangeAt Go.RowKit Go.Joins
open Go.ChangeMaps (open_string shut_string)

theorem SetIs.store2 {V w : World} {R : List Thing} {S : Nat} {L : List ItN} {N : Nat} {B : Nat} {t : TypeId} {a b c d : Value} (h : SetIs V w (blkT B #[a, b, c, d] t :: R) S L N) (u : Value) : SetIs V (w.setCell ⟨B, 2, none⟩ u) (blkT B #[a, b, u, d] t :: R) S L N := by
  obtain ⟨s, e, H, hl⟩ := h
  refine ⟨s, e, ((H.perm (List.perm_middle (l₁ := s.things))).store 2 u).perm ?_, hl⟩
  exact (List.perm_middle (l₁ := s.things)).symm
abbrev bA : ByteArray := ⟨#[97]⟩
abbrev b0 : ByteArray := ⟨#[0]⟩
abbrev bF : ByteArray := ⟨#[255]⟩
abbrev x1 : ItN := ⟨b0, b0, 3, 1⟩
abbrev x2 : ItN := ⟨bA, bF, 3, 2⟩
abbrev x4 : ItN := ⟨bA, bF, 4, 2⟩
abbrev x5 : ItN := ⟨⟨#[]⟩, ⟨#[]⟩, -9223372036854775808, 5⟩
theorem nfA : ¬ FormN ⟨bA, ⟨#[255, 255]⟩, 0, 0⟩ := by decide +kernel
theorem nfB : ¬ FormN ⟨bA, ⟨#[]⟩, 0, 0⟩ := by decide +kernel
theorem nfC : ¬ FormN ⟨bA, ⟨#[96]⟩, 0, 0⟩ := by decide +kernel
theorem fm1 : FormN x1 := by decide +kernel
theorem fm2 : FormN x2 := by decide +kernel
theorem fm4 : FormN x4 := by decide +kernel
theorem fm5 : FormN x5 := by decide +kernel
theorem lsN1 : butL [] x1 ++ [x1] = [x1] := by kernel_rfl
theorem lsN2 : butL [x1] x2 ++ [x2] = [x1, x2] := by kernel_rfl
theorem lsN3 : butL [x1, x2] x1 ++ [x1] = [x2, x1] := by kernel_rfl
theorem lsN4 : butL [x2, x1] x4 ++ [x4] = [x2, x1, x4] := by kernel_rfl
theorem lsN5 : delL [x2, x1, x4] bA bF 3 = [x1, x4] := by kernel_rfl
theorem lsN6 : delL [x1, x4] bA bF 4 = [x1] := by kernel_rfl
theorem lsN7 : butL [x1] x5 ++ [x5] = [x1, x5] := by kernel_rfl
theorem lkN0 : ((looksF bA [] : Nat) : Int) = 0 := by kernel_rfl
theorem lkN2 : ((looksF bA [x1, x2] : Nat) : Int) = 2 := by kernel_rfl
theorem lkN3 : ((looksF bA [x2, x1] : Nat) : Int) = 2 := by kernel_rfl
theorem lkN4 : ((looksF bA [x2, x1, x4] : Nat) : Int) = 1 := by kernel_rfl
theorem lkN6 : ((looksF bA [x1] : Nat) : Int) = 1 := by kernel_rfl
theorem lkN7 : ((looksF ⟨#[]⟩ [x1, x5] : Nat) : Int) = 2 := by kernel_rfl
theorem lkN8 : ((looksF ⟨#[97, 98]⟩ [x1, x5] : Nat) : Int) = 2 := by kernel_rfl
abbrev FoundN (key : ByteArray) (L : List ItN) (v : Int) : Prop := (findF key L = none ∧ v < 0) ∨ ∃ x, findF key L = some x ∧ x.v = v ∧ 0 ≤ v
theorem fdN0 : FoundN bA [] (-1) := .inl ⟨by kernel_rfl, by decide⟩
theorem fdN2 : FoundN bA [x1, x2] 1 := .inr ⟨x1, by kernel_rfl, rfl, by decide⟩
theorem fdN3 : FoundN bA [x2, x1] 2 := .inr ⟨x2, by kernel_rfl, rfl, by decide⟩
theorem fdN4 : FoundN bA [x2, x1, x4] 2 := .inr ⟨x4, by kernel_rfl, rfl, by decide⟩
theorem fdN6 : FoundN bA [x1] 1 := .inr ⟨x1, by kernel_rfl, rfl, by decide⟩
theorem fdN7 : FoundN ⟨#[]⟩ [x1, x5] 5 := .inr ⟨x5, by kernel_rfl, rfl, by decide⟩
theorem fdN8 : FoundN ⟨#[97, 98]⟩ [x1, x5] (-1) := .inl ⟨by kernel_rfl, by decide⟩
theorem msN4 : ((masksF [x2, x1, x4]).length : Int) = 2 := by kernel_rfl
theorem lnN0 : (([] : List ItN).length : Int) = 0 := rfl
theorem lnN3 : (([x2, x1] : List ItN).length : Int) = 2 := rfl
theorem lnN4 : (([x2, x1, x4] : List ItN).length : Int) = 3 := rfl
theorem dlN4 : ∀ y ∈ [x2, x1, x4], ¬ SameN y ⟨bA, bF, 9, 0⟩ := by decide +kernel
theorem dlN5 : ∃ y ∈ [x2, x1, x4], SameN y ⟨bA, bF, 3, 0⟩ := by decide +kernel
theorem dlN6 : ∃ y ∈ [x1, x4], SameN y ⟨bA, bF, 4, 0⟩ := by decide +kernel
theorem tfind_nil2 (key : ByteArray) (w : World) : Calls Try.prog 18 #[.pointer none, .string key] w fun e w' => e = .returned (.tuple #[.agg #[.string ⟨#[]⟩, .string ⟨#[]⟩, .int .i64 0, .int .i64 0], .bool false]) ∧ Wider w w' := tfind_nil key w
theorem mtN0 : MatchN x1 ⟨#[120]⟩ := by decide +kernel
theorem mtN1 : ¬ MatchN x1 ⟨#[120, 121]⟩ := by decide +kernel
theorem mtN2 : ¬ MatchN ⟨bA, b0, 0, 0⟩ bA := by decide +kernel
set_option maxRecDepth 20000 in
set_option maxHeartbeats 8000000 in
theorem ternNames_walk (w : World) : Calls Try.prog 4 #[] w fun e w' => e = .returned (.bool true) ∧ Wider w w' := by
  have H := Own.nil (Wider.refl w)
  go_enter Try.func4, Try.ntmps4
  go_upto_region 6 with (first
    | (go_at_call 9; ((with_reducible refine (awake12_c _).mono ?_); rintro e w1 ⟨rfl, g⟩; replace H := H.quiet g; clear g))
    | (go_at_call 12; ((with_reducible refine (snew_c H).mono ?_); rintro e w1 ⟨A, rfl, K⟩; clear H))
    | (go_at_call 13; ((with_reducible refine (sfound_o K (by decide) (by decide) lkN0 fdN0).mono ?_); clear K; rintro e w2 ⟨rfl, K⟩))
    | (go_at_call 14; ((with_reducible refine (sputbad_o K nfA (by decide)).mono ?_); clear K; rintro e w2 ⟨rfl, K⟩))
    | (go_at_call 14; ((with_reducible refine (sputbad_o K nfB (by decide)).mono ?_); clear K; rintro e w2 ⟨rfl, K⟩))
    | (go_at_call 14; ((with_reducible refine (sputbad_o K nfC (by decide)).mono ?_); clear K; rintro e w2 ⟨rfl, K⟩))
    | (go_at_call 15; ((with_reducible refine (slen_o K lnN0).mono ?_); clear K; rintro e w2 ⟨rfl, K⟩)))
  go_upto_region 8 with (fail)
  replace K := (K.blk #[.string b0, .string b0, .int .i64 3, .int .i64 1] 26).blk #[.string bA, .string bF, .int .i64 3, .int .i64 2] 26
  rw [show (w2.alloc (.cells #[.string b0, .string b0, .int .i64 3, .int .i64 1] 26)).heap.size = w2.heap.size + 1 by simp] at K
  obtain ⟨B1, hB1⟩ : ∃ B, w2.heap.size = B := ⟨_, rfl⟩
  obtain ⟨W2, hW2⟩ : ∃ W, (w2.alloc (.cells #[.string b0, .string b0, .int .i64 3, .int .i64 1] 26)).alloc (.cells #[.string bA, .string bF, .int .i64 3, .int .i64 2] 26) = W := ⟨_, rfl⟩
  rw [hW2] at K ⊢
  rw [hB1] at K ⊢
  obtain ⟨B2, hB2⟩ : ∃ B, B1 + 1 = B := ⟨_, rfl⟩
  rw [hB2] at K ⊢
  clear hW2 hB1 hB2
  obtain ⟨y0, y1, y2, y3⟩ := K.item ms1
  obtain ⟨z0, z1, z2, z3⟩ := K.item ms0
  go_upto_region 10 with (first
    | (go_at_call 14; ((with_reducible refine (sput_o K (by decide) fm1 (by decide) (by decide) lsN1).mono ?_); clear K; rintro e w2 ⟨rfl, K⟩; clear y0 y1 y2 y3 z0 z1 z2 z3; obtain ⟨y0, y1, y2, y3⟩ := K.item ms1; obtain ⟨z0, z1, z2, z3⟩ := K.item ms0))
    | (go_at_call 14; ((with_reducible refine (sput_o K (by decide) fm2 (by decide) (by decide) lsN2).mono ?_); clear K; rintro e w2 ⟨rfl, K⟩; clear y0 y1 y2 y3 z0 z1 z2 z3; obtain ⟨y0, y1, y2, y3⟩ := K.item ms1; obtain ⟨z0, z1, z2, z3⟩ := K.item ms0))
    | (go_at_call 13; ((with_reducible refine (sfound_o K (by decide) (by decide) lkN2 fdN2).mono ?_); clear K; rintro e w2 ⟨rfl, K⟩; clear y0 y1 y2 y3 z0 z1 z2 z3; obtain ⟨y0, y1, y2, y3⟩ := K.item ms1; obtain ⟨z0, z1, z2, z3⟩ := K.item ms0))
    | (go_at_call 14; ((with_reducible refine (sput_o K (by decide) fm1 (by decide) (by decide) lsN3).mono ?_); clear K; rintro e w2 ⟨rfl, K⟩; clear y0 y1 y2 y3 z0 z1 z2 z3; obtain ⟨y0, y1, y2, y3⟩ := K.item ms1; obtain ⟨z0, z1, z2, z3⟩ := K.item ms0))
    | (go_at_call 13; ((with_reducible refine (sfound_o K (by decide) (by decide) lkN3 fdN3).mono ?_); clear K; rintro e w2 ⟨rfl, K⟩; clear y0 y1 y2 y3 z0 z1 z2 z3; obtain ⟨y0, y1, y2, y3⟩ := K.item ms1; obtain ⟨z0, z1, z2, z3⟩ := K.item ms0))
    | (go_at_call 15; ((with_reducible refine (slen_o K lnN3).mono ?_); clear K; rintro e w2 ⟨rfl, K⟩; clear y0 y1 y2 y3 z0 z1 z2 z3; obtain ⟨y0, y1, y2, y3⟩ := K.item ms1; obtain ⟨z0, z1, z2, z3⟩ := K.item ms0)))
  have fz := blk_free (K.rest.holds _ ms0) 2
  go_upto_region 11 with (fail)
  replace K := K.store2 (.int .i64 4)
  clear y0 y1 y2 y3 z0 z1 z2 z3 fz
  obtain ⟨y0, y1, y2, y3⟩ := K.item ms1
  obtain ⟨z0, z1, z2, z3⟩ := K.item ms0
  go_upto_region 13 with (first
    | (go_at_call 14; ((with_reducible refine (sput_o K (by decide) fm4 (by decide) (by decide) lsN4).mono ?_); clear K; rintro e w2 ⟨rfl, K⟩; clear y0 y1 y2 y3 z0 z1 z2 z3; obtain ⟨y0, y1, y2, y3⟩ := K.item ms1; obtain ⟨z0, z1, z2, z3⟩ := K.item ms0))
    | (go_at_call 15; ((with_reducible refine (slen_o K lnN4).mono ?_); clear K; rintro e w2 ⟨rfl, K⟩; clear y0 y1 y2 y3 z0 z1 z2 z3; obtain ⟨y0, y1, y2, y3⟩ := K.item ms1; obtain ⟨z0, z1, z2, z3⟩ := K.item ms0))
    | (go_at_call 16; ((with_reducible refine (smasks_o K msN4).mono ?_); clear K; rintro e w2 ⟨rfl, K⟩; clear y0 y1 y2 y3 z0 z1 z2 z3; obtain ⟨y0, y1, y2, y3⟩ := K.item ms1; obtain ⟨z0, z1, z2, z3⟩ := K.item ms0))
    | (go_at_call 13; ((with_reducible refine (sfound_o K (by decide) (by decide) lkN4 fdN4).mono ?_); clear K; rintro e w2 ⟨rfl, K⟩; clear y0 y1 y2 y3 z0 z1 z2 z3; obtain ⟨y0, y1, y2, y3⟩ := K.item ms1; obtain ⟨z0, z1, z2, z3⟩ := K.item ms0))
    | (go_at_call 17; ((with_reducible refine (sdelno_o K (by decide) (by decide) (by decide) dlN4).mono ?_); clear K; rintro e w2 ⟨rfl, K⟩; clear y0 y1 y2 y3 z0 z1 z2 z3; obtain ⟨y0, y1, y2, y3⟩ := K.item ms1; obtain ⟨z0, z1, z2, z3⟩ := K.item ms0))
    | (go_at_call 17; ((with_reducible refine (sdel_o K (by decide) (by decide) (by decide) dlN5 lsN5).mono ?_); clear K; rintro e w2 ⟨rfl, K⟩; clear y0 y1 y2 y3 z0 z1 z2 z3; obtain ⟨y0, y1, y2, y3⟩ := K.item ms1; obtain ⟨z0, z1, z2, z3⟩ := K.item ms0))
    | (go_at_call 17; ((with_reducible refine (sdel_o K (by decide) (by decide) (by decide) dlN6 lsN6).mono ?_); clear K; rintro e w2 ⟨rfl, K⟩; clear y0 y1 y2 y3 z0 z1 z2 z3; obtain ⟨y0, y1, y2, y3⟩ := K.item ms1; obtain ⟨z0, z1, z2, z3⟩ := K.item ms0))
    | (go_at_call 13; ((with_reducible refine (sfound_o K (by decide) (by decide) lkN6 fdN6).mono ?_); clear K; rintro e w2 ⟨rfl, K⟩; clear y0 y1 y2 y3 z0 z1 z2 z3; obtain ⟨y0, y1, y2, y3⟩ := K.item ms1; obtain ⟨z0, z1, z2, z3⟩ := K.item ms0)))
  go_upto_region 16 with (first
    | (go_at_call 14; ((with_reducible refine (sput_o K (by decide) fm5 (by decide) (by decide) lsN7).mono ?_); clear K; rintro e w2 ⟨rfl, K⟩; clear y0 y1 y2 y3 z0 z1 z2 z3; obtain ⟨y0, y1, y2, y3⟩ := K.item ms1; obtain ⟨z0, z1, z2, z3⟩ := K.item ms0))
    | (go_at_call 13; ((with_reducible refine (sfound_o K (by decide) (by decide) lkN7 fdN7).mono ?_); clear K; rintro e w2 ⟨rfl, K⟩; clear y0 y1 y2 y3 z0 z1 z2 z3; obtain ⟨y0, y1, y2, y3⟩ := K.item ms1; obtain ⟨z0, z1, z2, z3⟩ := K.item ms0))
    | (go_at_call 13; ((with_reducible refine (sfound_o K (by decide) (by decide) lkN8 fdN8).mono ?_); clear K; rintro e w2 ⟨rfl, K⟩; clear y0 y1 y2 y3 z0 z1 z2 z3; obtain ⟨y0, y1, y2, y3⟩ := K.item ms1; obtain ⟨z0, z1, z2, z3⟩ := K.item ms0)))
  go_upto_region 17 with (first
    | (go_at_call 18; ((with_reducible refine (tfind_nil2 bA _).mono ?_); rintro e w5 ⟨rfl, g⟩; replace K := (K.quiet g).quiet ((Wider.refl _).alloc (.cells #[.string ⟨#[]⟩, .string ⟨#[]⟩, .int .i64 0, .int .i64 0] 26)); clear g; clear y0 y1 y2 y3 z0 z1 z2 z3; obtain ⟨y0, y1, y2, y3⟩ := K.item ms1; obtain ⟨z0, z1, z2, z3⟩ := K.item ms0)))
  clear y0 y1 y2 y3 z0 z1 z2 z3
  obtain ⟨W5, hW5⟩ : ∃ W, w5.alloc (.cells #[.string ⟨#[]⟩, .string ⟨#[]⟩, .int .i64 0, .int .i64 0] 26) = W := ⟨_, rfl⟩
  rw [hW5] at K ⊢
  clear hW5
  obtain ⟨y0, y1, y2, y3⟩ := K.item ms1
  obtain ⟨z0, z1, z2, z3⟩ := K.item ms0
  go_wp2_with (first
    | (go_at_call 14; ((with_reducible refine (tput_nil x1 _).mono ?_); rintro e w5 ⟨rfl, g⟩; replace K := K.quiet g; clear g; clear y0 y1 y2 y3 z0 z1 z2 z3; obtain ⟨y0, y1, y2, y3⟩ := K.item ms1; obtain ⟨z0, z1, z2, z3⟩ := K.item ms0))
    | (go_at_call 17; ((with_reducible refine (tdel_nil _ _ _ _).mono ?_); rintro e w5 ⟨rfl, rfl⟩))
    | (go_at_call 19; ((with_reducible refine (tlooks_nil _ _).mono ?_); rintro e w5 ⟨rfl, g⟩; replace K := K.quiet g; clear g; clear y0 y1 y2 y3 z0 z1 z2 z3; obtain ⟨y0, y1, y2, y3⟩ := K.item ms1; obtain ⟨z0, z1, z2, z3⟩ := K.item ms0))
    | (go_at_call 16; ((with_reducible refine (tmasks_nil _).mono ?_); rintro e w5 ⟨rfl, rfl⟩))
    | (go_at_call 15; ((with_reducible refine (tlen_nil _).mono ?_); rintro e w5 ⟨rfl, rfl⟩))
    | (go_at_call 20; ((with_reducible refine (tall_nil _).mono ?_); rintro e w5 ⟨rfl, rfl⟩))
    | (go_at_call 21; ((with_reducible refine (tcopy_nil _).mono ?_); rintro e w5 ⟨rfl, rfl⟩))
    | (go_at_call 10; ((with_reducible refine (umatchT x1 ⟨#[120]⟩ (by decide) mtN0 _).mono ?_); rintro e w5 ⟨rfl, g⟩; replace K := K.quiet g; clear g; clear y0 y1 y2 y3 z0 z1 z2 z3; obtain ⟨y0, y1, y2, y3⟩ := K.item ms1; obtain ⟨z0, z1, z2, z3⟩ := K.item ms0))
    | (go_at_call 10; ((with_reducible refine (umatchF x1 ⟨#[120, 121]⟩ (by decide) mtN1 _).mono ?_); rintro e w5 ⟨rfl, g⟩; replace K := K.quiet g; clear g; clear y0 y1 y2 y3 z0 z1 z2 z3; obtain ⟨y0, y1, y2, y3⟩ := K.item ms1; obtain ⟨z0, z1, z2, z3⟩ := K.item ms0))
    | (go_at_call 10; ((with_reducible refine (umatchF ⟨bA, b0, 0, 0⟩ bA (by decide) mtN2 _).mono ?_); rintro e w5 ⟨rfl, g⟩; replace K := K.quiet g; clear g; clear y0 y1 y2 y3 z0 z1 z2 z3; obtain ⟨y0, y1, y2, y3⟩ := K.item ms1; obtain ⟨z0, z1, z2, z3⟩ := K.item ms0)))
  go_ret
  exact ⟨rfl, K.wider⟩
set_option maxRecDepth 100000 in
theorem ternNames_lifted (os : Os) (started : os.Started) (H : Type) (enc : TypeId × Value → H) :
    ReturnsInHanded {} Try.checked os 4 .any (Rows.ternNamesSpec.pre6 enc Try.prog Try.f4 Rows.ternNamesRow.domain false) (Rows.ternNamesSpec.post enc Try.prog Try.f4 false true false false) := by
  refine returnsInHanded_of_change (C := Try.checked) own started (by kernel_rfl) Try.func4
    (ChangeSpec.witness6 (enc := enc) (C := Try.checked) false ⟨#[], #[], []⟩ 8 (by kernel_rfl) (by kernel_rfl) (by kernel_rfl) (by kernel_rfl)) ?_
  intro W base args ds gs before hval0 hW hcnd _
  have hval : ∀ (j : Nat) t v, Try.f4.params[j]? = some t → args[j]? = some v → Value.okWide Try.prog W .any base t v := hval0
  have hW' := hW
  obtain ⟨p, q, hA0, hV, rfl, hfz, hnd⟩ := hW
  have hA : DataW.TrodAll enc Try.prog W 0 (fun _ => true) true Try.f4.params.toList args.toList ds p := hA0
  rw [Try.params4] at hA hval
  obtain ⟨hargs, rfl, rfl⟩ := trodAll_nil hA
  obtain rfl : args = #[] := by cases args; simp_all
  obtain ⟨rfl, rfl⟩ := trodVars_none hV
  clear hA0 hval0
  simp only [List.append_nil] at hW'
  refine (ternNames_walk  W).mono fun e W' ⟨he, hg⟩ => ?_
  subst he
  exact ⟨_, rfl, post_of_none hW' (fun _ _ _ => (trodAll_cons_mk (shut_bool Try.underlying4 _) trodAll_mk0)) (fun sp => trodAll_mk0) (fun _ => rfl)
    hg.1 (ok_one (by kernel_rfl) rfl (okWide_bool_mk Try.underlying4 _))⟩

theorem ternNames_holds : Rows.TernNamesSaid :=
  OpenClaim.holds_of_wide 4 Try.f4 rfl rfl rfl rfl rfl rfl rfl ⟨rfl, rfl, rfl, rfl, rfl⟩ rfl rfl rfl rfl rfl (by kernel_rfl) Try.func4 (by kernel_rfl)
    (of_decide_eq_true (by kernel_rfl)) (by unfold Func.isWrapper; first | (rw [if_pos (by decide +kernel)]; kernel_rfl) | (rw [if_neg (by decide +kernel)]; exact ⟨rfl, rfl⟩))
    (fun os started H enc _ => ternNames_lifted os started H enc)

#print axioms ternNames_holds

end Go.Proofs.Ytjjgdnaejeejlaa
