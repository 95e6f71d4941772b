/- Package rang: what the laws ask first: the examples. -/
import Derived.Test.YtpdhahghpdckeaaVSetD
namespace Go.Proofs.Ytpdhahghpdckeaa
set_option linter.unusedVariables false
open Go.ChangeShapes Go.WideShapes Go.ChangeAt Go.RowKit Go.Joins

theorem widths_lit (w : World) (ws : List Nat) : WidthsAt (w.alloc (.cells (intsW ws).toArray 3)) (some ⟨w.heap.size, 0, none⟩) ws := fun j n h => by
  refine ⟨_, rfl, ?_⟩
  rw [World.cell?_alloc_new, List.getElem?_toArray]
  exact intsW_at h
variable {V w : World} {R : List Thing} {S N : Nat} {ws : List Nat} {L : List ItR}
set_option maxHeartbeats 2000000 in
theorem vfinds_o (h : RangIs V w R S ws L N) (hN : N < 99990) {key : ByteArray} {v : Int} {b : Bool} (hb : ((findR ws key L).isSome && (numR (findR ws key L) == v)) = b) :
    Calls Try.prog 21 #[.pointer (some ⟨S, 0, none⟩), .string key, .int .i64 v] w fun e w' => e = .returned (.bool b) ∧ Wider w w' := by
  have zf := vfind_o h hN (key := key) rfl rfl
  obtain ⟨u, hu⟩ : ∃ u, numR (findR ws key L) = u := ⟨_, rfl⟩
  rw [hu] at zf hb
  cases q : (findR ws key L).isSome with
  | false =>
    rw [q] at zf hb
    have HB := Lib.hid hb
    clear hb q hu h
    go_enter Try.func21, Try.ntmps21
    go_wp2_with (first
      | (go_at_call 11; ((with_reducible refine zf.mono ?_); rintro e w1 ⟨rfl, g⟩; clear zf)))
    go_ret
    exact ⟨congrArg (fun q => Ending.returned (.bool q)) HB.out, g⟩
  | true =>
    rw [q] at zf hb
    have HB := Lib.hid hb
    clear hb q hu h
    go_enter Try.func21, Try.ntmps21
    go_wp2_with (first
      | (go_at_call 11; ((with_reducible refine zf.mono ?_); rintro e w1 ⟨rfl, g⟩; clear zf)))
    go_ret
    exact ⟨congrArg (fun q => Ending.returned (.bool q)) HB.out, g⟩

/-! ### The examples -/
abbrev rxA : ItR := ⟨⟨#[5, 0, 0]⟩, ⟨#[7, 1, 0]⟩, 1, 1⟩
abbrev rxB : ItR := ⟨⟨#[0, 0, 0]⟩, ⟨#[255, 0, 16]⟩, 1, 2⟩
abbrev rxC : ItR := ⟨⟨#[6, 0, 5]⟩, ⟨#[6, 0, 5]⟩, 2, 3⟩
theorem rfA : FormR [1, 2] rxA := ⟨by kernel_rfl, by kernel_rfl, by kernel_rfl⟩
theorem rfB : FormR [1, 2] rxB := ⟨by kernel_rfl, by kernel_rfl, by kernel_rfl⟩
theorem rfC : FormR [1, 2] rxC := ⟨by kernel_rfl, by kernel_rfl, by kernel_rfl⟩
theorem rfD : ¬ FormR [1, 2] ⟨⟨#[5, 0, 0]⟩, ⟨#[4, 255, 255]⟩, 1, 4⟩ := fun h => by
  have e : inK [1, 2] ⟨#[5, 0, 0]⟩ ⟨⟨#[5, 0, 0]⟩, ⟨#[4, 255, 255]⟩, 1, 4⟩ = false := by kernel_rfl
  exact absurd (e.symm.trans h.2.2) (by decide)
theorem rlA : butR [] rxA ++ [rxA] = [rxA] := rfl
theorem rlB : butR [rxA] rxB ++ [rxB] = [rxA, rxB] := by kernel_rfl
theorem rlC : butR [rxA, rxB] rxC ++ [rxC] = [rxA, rxB, rxC] := by kernel_rfl
theorem rlD : butR [rxA, rxB, rxC] rxA ++ [rxA] = [rxB, rxC, rxA] := by kernel_rfl
abbrev rlX : List ItR := [rxA, rxB, rxC]
abbrev rlY : List ItR := [rxB, rxC, rxA]
theorem rn1 : numR (findR [1, 2] ⟨#[6, 2, 0]⟩ rlX) = 0 := by kernel_rfl
theorem rn1b : (findR [1, 2] ⟨#[6, 2, 0]⟩ rlX).isSome = false := by kernel_rfl
theorem rn2 : numR (findR [1, 2] ⟨#[6, 2]⟩ rlX) = 0 := by kernel_rfl
theorem rn2b : (findR [1, 2] ⟨#[6, 2]⟩ rlX).isSome = false := by kernel_rfl
theorem rn3 : ((findR [1, 2] ⟨#[6, 0, 5]⟩ rlX).isSome && (numR (findR [1, 2] ⟨#[6, 0, 5]⟩ rlX) == 3)) = true := by kernel_rfl
theorem rn4 : ((findR [1, 2] ⟨#[5, 0, 128]⟩ rlX).isSome && (numR (findR [1, 2] ⟨#[5, 0, 128]⟩ rlX) == 1)) = true := by kernel_rfl
theorem rn5 : ((findR [1, 2] ⟨#[6, 0, 4]⟩ rlX).isSome && (numR (findR [1, 2] ⟨#[6, 0, 4]⟩ rlX) == 1)) = true := by kernel_rfl
theorem rn6 : ((findR [1, 2] ⟨#[8, 0, 8]⟩ rlX).isSome && (numR (findR [1, 2] ⟨#[8, 0, 8]⟩ rlX) == 2)) = true := by kernel_rfl
theorem rn7 : ((findR [1, 2] ⟨#[6, 0, 4]⟩ rlY).isSome && (numR (findR [1, 2] ⟨#[6, 0, 4]⟩ rlY) == 2)) = true := by kernel_rfl
set_option maxRecDepth 20000 in
set_option maxHeartbeats 4000000 in
theorem awake13_c (w : World) : Calls Try.prog 8 #[] w fun e w' => e = .returned (.bool true) ∧ Wider w w' := by
  have H : Own w (w.alloc (.cells #[.int .i64 1, .int .i64 2] 3)) [] := (Own.nil (Wider.refl w)).quiet ((Wider.refl w).alloc _)
  have zn := vnew_o H (n := 2) (c := 2) (widths_lit w [1, 2]) rfl (by decide) (by decide) (by decide)
  go_enter Try.func8, Try.ntmps8
  go_wp2_with (first
    | (go_at_call 9; ((with_reducible refine zn.mono ?_); rintro e w1 ⟨A, rfl, K0⟩; clear H zn))
    | (go_at_call 10; ((with_reducible refine (vput_o K0 (by decide) rfA rlA).mono ?_); rintro e w2 ⟨rfl, K1⟩; clear K0))
    | (go_at_call 10; ((with_reducible refine (vput_o K1 (by decide) rfB rlB).mono ?_); rintro e w2 ⟨rfl, K2⟩; clear K1))
    | (go_at_call 10; ((with_reducible refine (vput_o K2 (by decide) rfC rlC).mono ?_); rintro e w2 ⟨rfl, K3⟩; clear K2))
    | (go_at_call 11; ((with_reducible refine (vfind_o K3 (by decide) rn1 rn1b).mono ?_); rintro e w2 ⟨rfl, g⟩; replace K3 := K3.quiet g; clear g))
    | (go_at_call 11; ((with_reducible refine (vfind_o K3 (by decide) rn2 rn2b).mono ?_); rintro e w2 ⟨rfl, g⟩; replace K3 := K3.quiet g; clear g))
    | (go_at_call 21; ((with_reducible refine (vfinds_o K3 (by decide) rn3).mono ?_); rintro e w2 ⟨rfl, g⟩; replace K3 := K3.quiet g; clear g))
    | (go_at_call 21; ((with_reducible refine (vfinds_o K3 (by decide) rn4).mono ?_); rintro e w2 ⟨rfl, g⟩; replace K3 := K3.quiet g; clear g))
    | (go_at_call 21; ((with_reducible refine (vfinds_o K3 (by decide) rn5).mono ?_); rintro e w2 ⟨rfl, g⟩; replace K3 := K3.quiet g; clear g))
    | (go_at_call 21; ((with_reducible refine (vfinds_o K3 (by decide) rn6).mono ?_); rintro e w2 ⟨rfl, g⟩; replace K3 := K3.quiet g; clear g))
    | (go_at_call 10; ((with_reducible refine (vputbad_o K3 rfD).mono ?_); rintro e w2 ⟨rfl, g⟩; replace K3 := K3.quiet g; clear g))
    | (go_at_call 10; ((with_reducible refine (vput_o K3 (by decide) rfA rlD).mono ?_); rintro e w2 ⟨rfl, K4⟩; clear K3))
    | (go_at_call 21; ((with_reducible refine (vfinds_o K4 (by decide) rn7).mono ?_); rintro e w2 ⟨rfl, g⟩; replace K4 := K4.quiet g; clear g))
    | (go_at_call 13; ((with_reducible refine (vlen_o K4 (n := 3) rfl).mono ?_); rintro e w2 ⟨rfl, g⟩; replace K4 := K4.quiet g; clear g)))
  go_ret
  exact ⟨rfl, K4.wider⟩

end Go.Proofs.Ytpdhahghpdckeaa
