/- What awake of the statements of package field answers: true: the examples are as they are told. -/
import Derived.Test.YtmlmamhcglpfeaaFPut
namespace Go.Proofs.Ytmlmamhcglpfeaa
set_option linter.unusedVariables false
open Go.RowKit

theorem low_c (l : Int) (w : World) :
    Calls Try.prog 39 #[.int .u64 l] w fun e w' => e = .returned (.agg #[.int .u64 0, .int .u64 l]) ∧ Grown w w' := by
  go_enter Try.func39, Try.ntmps39
  go_wp2
  simp [bodyPost, results, Try.results39, go_sem]
  exact (Grown.refl _).alloc _ _

theorem hgrown {V W w : World} (h : Hid (Wider V W)) (g : Grown W w) : Hid (Wider V w) := h.out.grown g
theorem hgrownA {V W w : World} {o : Obj} (h : Hid (Wider V W)) (g : Grown (W.alloc o) w) : Hid (Wider V w) := (h.out.alloc o).grown g
theorem htrans {V W w : World} (h : Hid (Wider V W)) (g : Wider W w) : Hid (Wider V w) := h.out.trans g
theorem htransA {V W w : World} {o : Obj} (h : Hid (Wider V W)) (g : Wider (W.alloc o) w) : Hid (Wider V w) := (h.out.alloc o).trans g
theorem htransAA {V W w : World} {o o' : Obj} (h : Hid (Wider V W)) (g : Wider ((W.alloc o).alloc o') w) : Hid (Wider V w) := ((h.out.alloc o).alloc o').trans g
theorem halloc2 {V W : World} (h : Hid (Wider V W)) (o : Obj) : Hid (Wider V (W.alloc o)) := h.out.alloc o
theorem keep2 {V W w : World} {a b : Addr} {p q : Value} (g : Grown W w) (h : W.cell? a = some p ∧ W.cell? b = some q ∧ Hid (Grown V W)) :
    w.cell? a = some p ∧ w.cell? b = some q ∧ Hid (Grown V w) := ⟨gkeep g h.1, gkeep g h.2.1, h.2.2.out.trans3 g⟩

theorem is_c (s : ByteArray) (off n : Nat) {l : Int} (hs : s.size < 1152921504606846976) (h1 : 1 ≤ n) (h2 : n ≤ 128) (h3 : off + n ≤ 8 * s.size) (hr : IsW 0 l (fldW s off n)) (w : World) :
    Calls Try.prog 46 #[.string s, .int .i64 (off : Int), .int .i64 (n : Int), .int .u64 l] w fun e w' => e = .returned (.bool true) ∧ Grown w w' := by
  go_enter Try.func46, Try.ntmps46
  go_wp2_with (go_at_call 27; ((with_reducible refine (get_c s off n hs h1 h2 h3 hr _).mono ?_); rintro e w2 ⟨rfl, g2⟩))
  obtain ⟨k0, k1, _, _⟩ := new2 w2 (.int .u64 0) (.int .u64 l) 24
  have G : Hid (Grown w (w2.alloc (.cells #[.int .u64 0, .int .u64 l] 24))) := g2.alloc _ _
  generalize (w2.alloc (.cells #[.int .u64 0, .int .u64 l] 24)) = W at *
  go_region_held3 (fun w' => w'.cell? ⟨w2.heap.size, 0, none⟩ = some (.int .u64 0) ∧ w'.cell? ⟨w2.heap.size, 1, none⟩ = some (.int .u64 l) ∧ Hid (Grown w w')) (first | assumption | exact ⟨k0, k1, G⟩ | exact keep2 (by assumption) (by assumption))
    ((go_at_call 39; ((with_reducible refine (low_c _ _).mono ?_); rintro e w' ⟨rfl, g'⟩)))
  have HG : Hid (Grown w w') := by
    have h := ‹_ ∧ _ ∧ Hid (Grown w w')›
    exact h.2.2
  go_wp2
  go_ret
  exact ⟨rfl, HG.out⟩

/-- The texts of the examples. -/
abbrev ex12 : ByteArray := ⟨#[18, 52]⟩
theorem ex_err : errF ex12.size 8 9 = 4 := by decide
theorem ex_put : putT ex12 4 4 15#128 = ⟨#[31, 52]⟩ := by decide +kernel
theorem ex_text5 : textF 31#128 5 = ⟨#[31]⟩ := by decide +kernel
theorem ex_text9 : textF 511#128 9 = ⟨#[1, 255]⟩ := by decide +kernel
theorem ex_pre : IsPre ⟨#[18]⟩ ⟨#[19]⟩ 7 := ⟨by decide, by decide, fun _ => by decide⟩
theorem ex_is1 : IsW 0 2 (fldW ex12 4 4) := ⟨by decide, by decide⟩
theorem ex_is2 : IsW 0 35 (fldW ex12 4 8) := ⟨by decide, by decide⟩
theorem ex_is3 : IsW 0 4660 (fldW ex12 0 16) := ⟨by decide, by decide⟩
theorem isW_low (l : Nat) (h : l < 18446744073709551616) : IsW 0 (l : Int) (BitVec.ofNat 128 l) := by
  refine isW_of (by omega) (by omega) ?_
  rw [BitVec.toNat_ofNat]; omega

theorem aw1 (w : World) : Calls Try.prog 27 #[.string ⟨#[18, 52]⟩, .int .i64 8, .int .i64 9] w fun e w' => e = .returned (.tuple #[.agg #[.int .u64 0, .int .u64 0], .int .i64 4]) ∧ Grown w w' :=
  get_bad ex12 8 9 (r := 4) (by decide) (by decide) (by decide) (by decide) (by decide) ex_err (by decide) w
theorem aw2 (w : World) : Calls Try.prog 29 #[.string ⟨#[18, 52]⟩, .int .i64 4, .int .i64 4, .agg #[.int .u64 0, .int .u64 15]] w fun e w' => e = .returned (.tuple #[.string ⟨#[31, 52]⟩, .int .i64 0]) ∧ Wider w w' :=
  put_c ex12 4 4 15#128 (by decide) (by decide) (by decide) (by decide) (isW_low 15 (by decide)) ex_put w
theorem aw3 (w : World) : Calls Try.prog 31 #[.agg #[.int .u64 0, .int .u64 31], .int .i64 5] w fun e w' => e = .returned (.tuple #[.string ⟨#[31]⟩, .int .i64 0]) ∧ Grown w w' :=
  ftext_c 31#128 5 (isW_low 31 (by decide)) (by decide) (by decide) ex_text5 w
theorem aw4 (w : World) : Calls Try.prog 31 #[.agg #[.int .u64 0, .int .u64 511], .int .i64 9] w fun e w' => e = .returned (.tuple #[.string ⟨#[1, 255]⟩, .int .i64 0]) ∧ Grown w w' :=
  ftext_c 511#128 9 (isW_low 511 (by decide)) (by decide) (by decide) ex_text9 w
theorem aw5 (w : World) : Calls Try.prog 46 #[.string ⟨#[18, 52]⟩, .int .i64 4, .int .i64 4, .int .u64 2] w fun e w' => e = .returned (.bool true) ∧ Grown w w' :=
  is_c ex12 4 4 (by decide) (by decide) (by decide) (by decide) ex_is1 w
theorem aw6 (w : World) : Calls Try.prog 46 #[.string ⟨#[18, 52]⟩, .int .i64 4, .int .i64 8, .int .u64 35] w fun e w' => e = .returned (.bool true) ∧ Grown w w' :=
  is_c ex12 4 8 (by decide) (by decide) (by decide) (by decide) ex_is2 w
theorem aw7 (w : World) : Calls Try.prog 46 #[.string ⟨#[18, 52]⟩, .int .i64 0, .int .i64 16, .int .u64 4660] w fun e w' => e = .returned (.bool true) ∧ Grown w w' :=
  is_c ex12 0 16 (by decide) (by decide) (by decide) (by decide) ex_is3 w
theorem aw8 (w : World) : Calls Try.prog 37 #[.string ⟨#[18]⟩, .string ⟨#[19]⟩] w fun e w' => e = .returned (.int .i64 7) ∧ Grown w w' :=
  prefix_c ⟨#[18]⟩ ⟨#[19]⟩ (by decide) (by decide) ex_pre w

set_option maxHeartbeats 1000000 in
theorem awake2_c (w : World) :
    Calls Try.prog 26 #[] w fun e w' => e = .returned (.bool true) ∧ Wider w w' := by
  have G : Hid (Wider w w) := Wider.refl w
  go_enter Try.func26, Try.ntmps26
  go_wp2_with (first
    | (go_at_call 27; ((with_reducible refine (aw1 _).mono ?_); rintro e w1 ⟨rfl, g⟩; replace G := hgrown G g; clear g))
    | (go_at_call 39; ((with_reducible refine (low_c _ _).mono ?_); rintro e w2 ⟨rfl, g⟩; with_reducible (first | (replace G := hgrown G g) | (replace G := hgrownA G g)); clear g))
    | (go_at_call 29; ((with_reducible refine (aw2 _).mono ?_); rintro e w3 ⟨rfl, g⟩; replace G := htrans G g; clear g))
    | (go_at_call 31; ((with_reducible refine (aw3 _).mono ?_); rintro e w4 ⟨rfl, g⟩; replace G := hgrown G g; clear g))
    | (go_at_call 31; ((with_reducible refine (aw4 _).mono ?_); rintro e w4 ⟨rfl, g⟩; replace G := hgrown G g; clear g))
    | (go_at_call 46; ((with_reducible refine (aw5 _).mono ?_); rintro e w5 ⟨rfl, g⟩; replace G := hgrown G g; clear g))
    | (go_at_call 46; ((with_reducible refine (aw6 _).mono ?_); rintro e w5 ⟨rfl, g⟩; replace G := hgrown G g; clear g))
    | (go_at_call 46; ((with_reducible refine (aw7 _).mono ?_); rintro e w5 ⟨rfl, g⟩; replace G := hgrown G g; clear g))
    | (go_at_call 37; ((with_reducible refine (aw8 _).mono ?_); rintro e w6 ⟨rfl, g⟩; replace G := hgrown G g; clear g)))
  go_ret
  exact ⟨rfl, G.out⟩

end Go.Proofs.Ytmlmamhcglpfeaa
