/- The examples of layer 11: awake; and what acts make. -/
import Derived.Test.YtjnccpbedffijaaJUse
namespace Go.Proofs.Ytjnccpbedffijaa
set_option linter.unusedVariables false
open Go.ChangeShapes Go.WideShapes Go.ChangeAt Go.RowKit Go.Joins

abbrev k80 : ByteArray := ⟨#[128]⟩
abbrev k8040 : ByteArray := ⟨#[128, 64]⟩
abbrev b8040 : List Bool := [true, false, false, false, false, false, false, false, false, true]
theorem isKey_80 : IsKey k80 [true] := ⟨by decide, rfl, by decide⟩
theorem isKey_8040 : IsKey k8040 b8040 := ⟨by decide, rfl, by decide⟩
abbrev trA : Tr := ((Tr.nil.put [] 1).put [true] 2).put b8040 3
theorem trA_few : trA.count < 1000000 := by decide
theorem trA_all : trA.all [] = [([], 1), ([true], 2), (b8040, 3)] := by decide
theorem exA0 : trA.longest (bitL ⟨#[128, 127]⟩) = some (10, 3) ∧ (10 : Int) = ((10 : Nat) : Int) := ⟨by decide, rfl⟩
theorem exA1 : trA.longest (bitL ⟨#[128, 0]⟩) = some (1, 2) ∧ (1 : Int) = ((1 : Nat) : Int) := ⟨by decide, rfl⟩
theorem exA2 : trA.longest (bitL k80) = some (1, 2) ∧ (1 : Int) = ((1 : Nat) : Int) := ⟨by decide, rfl⟩
theorem exA3 : trA.longest (bitL ⟨#[0]⟩) = some (0, 1) ∧ (0 : Int) = ((0 : Nat) : Int) := ⟨by decide, rfl⟩
theorem exA4 : trA.longest (bitL ⟨#[]⟩) = some (0, 1) ∧ (0 : Int) = ((0 : Nat) : Int) := ⟨by decide, rfl⟩
theorem ckA0 : checkN k80 0 = 3 ∧ (3 : Int) ≠ 0 := ⟨by decide, by decide⟩
theorem ckA1 : checkN ⟨#[192]⟩ 1 = 3 ∧ (3 : Int) ≠ 0 := ⟨by decide, by decide⟩
theorem ckA2 : checkN ⟨#[128, 0]⟩ 1 = 3 ∧ (3 : Int) ≠ 0 := ⟨by decide, by decide⟩
theorem bdA : -9223372036854775808 ≤ (0 : Int) ∧ (0 : Int) ≤ 9223372036854775807 := ⟨by decide, by decide⟩
theorem bdB : -9223372036854775808 ≤ (1 : Int) ∧ (1 : Int) ≤ 9223372036854775807 := ⟨by decide, by decide⟩
theorem trA_cells {V w : World} {R : List Thing} {A : Option Addr} {c : Nat} (H : Own V w (rowI (.slice A 3 c) 3 [([], 1), ([true], 2), (b8040, 3)] :: R)) : ∃ g, A = some ⟨g, 0, none⟩ ∧
    w.cell? ⟨g, 0, none⟩ = some (.string ⟨#[]⟩) ∧ w.cell? ⟨g, 1, none⟩ = some (.int .i64 0) ∧ w.cell? ⟨g, 2, none⟩ = some (.int .i64 1) ∧
    w.cell? ⟨g, 3, none⟩ = some (.string k80) ∧ w.cell? ⟨g, 4, none⟩ = some (.int .i64 1) ∧ w.cell? ⟨g, 5, none⟩ = some (.int .i64 2) ∧
    w.cell? ⟨g, 6, none⟩ = some (.string k8040) ∧ w.cell? ⟨g, 7, none⟩ = some (.int .i64 10) ∧ w.cell? ⟨g, 8, none⟩ = some (.int .i64 3) := by
  obtain ⟨g, e, hg⟩ := H.blockI (by simp)
  have q := fun (j : Nat) (x) (h : [(([] : List Bool), (1 : Int)), ([true], 2), (b8040, 3)][j]? = some x) => cellsI_at _ j x h
  have a := q 0 _ rfl
  have b := q 1 _ rfl
  have c := q 2 _ rfl
  rw [← isKey_nil.eq] at a
  rw [← isKey_80.eq] at b
  rw [← isKey_8040.eq] at c
  exact ⟨g, e, hg _ _ a.1, hg _ _ a.2.1, hg _ _ a.2.2, hg _ _ b.1, hg _ _ b.2.1, hg _ _ b.2.2, hg _ _ c.1, hg _ _ c.2.1, hg _ _ c.2.2⟩
set_option maxRecDepth 20000 in
set_option maxHeartbeats 8000000 in
theorem awake11_c (w : World) : Calls Try.prog 8 #[] w fun e w' => e = .returned (.bool true) ∧ Wider w w' := by
  have H := Own.nil (Wider.refl w)
  go_enter Try.func8, Try.ntmps8
  go_upto_region 5 with (first
    | (go_at_call 18; ((with_reducible refine (jnew_c H).mono ?_); rintro e w1 ⟨A, T, rfl, ht, H1⟩; clear H))
    | (go_at_call 9; ((with_reducible refine (jput_c isKey_nil (n := 0) rfl 1 ht (by decide) H1).mono ?_); rintro e w2 ⟨rfl, T2, ht2, H2⟩; clear H1 ht))
    | (go_at_call 9; ((with_reducible refine (jput_c isKey_80 (n := 1) rfl 2 ht2 (by decide) H2).mono ?_); rintro e w3 ⟨rfl, T3, ht3, H3⟩; clear H2 ht2))
    | (go_at_call 9; ((with_reducible refine (jput_c isKey_8040 (n := 10) rfl 3 ht3 (by decide) H3).mono ?_); rintro e w4 ⟨rfl, T4, ht4, H4⟩; clear H3 ht3; have HT := Lib.hid ht4; clear ht4))
    | (go_at_call 23; ((with_reducible refine (jfinds_o (key := ⟨#[128, 127]⟩) (by decide) HT.out H4 mem1 exA0).mono ?_); clear H4; rintro e w5 ⟨rfl, H4⟩))
    | (go_at_call 23; ((with_reducible refine (jfinds_o (key := ⟨#[128, 0]⟩) (by decide) HT.out H4 mem1 exA1).mono ?_); clear H4; rintro e w5 ⟨rfl, H4⟩))
    | (go_at_call 23; ((with_reducible refine (jfinds_o (key := k80) (by decide) HT.out H4 mem1 exA2).mono ?_); clear H4; rintro e w5 ⟨rfl, H4⟩))
    | (go_at_call 23; ((with_reducible refine (jfinds_o (key := ⟨#[0]⟩) (by decide) HT.out H4 mem1 exA3).mono ?_); clear H4; rintro e w5 ⟨rfl, H4⟩))
    | (go_at_call 23; ((with_reducible refine (jfinds_o (key := ⟨#[]⟩) (by decide) HT.out H4 mem1 exA4).mono ?_); clear H4; rintro e w5 ⟨rfl, H4⟩))
    | (go_at_call 14; ((with_reducible refine (jall_o HT.out trA_few H4 mem1 trA_all rfl).mono ?_); rintro e w6 ⟨A6, c6, rfl, H6⟩)))
  obtain ⟨g, rfl, _⟩ := trA_cells H6
  go_wp2_with (first
    | (go_at_call 9; ((with_reducible refine (jputbad_o (by decide) bdA ckA0 1 H6).mono ?_); clear H6; rintro e w7 ⟨rfl, H6⟩))
    | (go_at_call 9; ((with_reducible refine (jputbad_o (by decide) bdB ckA1 1 H6).mono ?_); clear H6; rintro e w7 ⟨rfl, H6⟩))
    | (go_at_call 9; ((with_reducible refine (jputbad_o (by decide) bdB ckA2 1 H6).mono ?_); clear H6; rintro e w8 ⟨rfl, H6⟩; obtain ⟨g', e', k0, k1, k2, m0, m1, m2, p0, p1, p2⟩ := trA_cells H6; obtain rfl : g = g' := by injection e' with e'; injection e')))
  go_ret
  exact ⟨rfl, H6.wider⟩
end Go.Proofs.Ytjnccpbedffijaa
