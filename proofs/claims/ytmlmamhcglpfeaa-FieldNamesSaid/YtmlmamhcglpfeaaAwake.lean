/- What awake of the statements of package word answers: true: the examples are as they are told. -/
import Derived.Test.YtmlmamhcglpfeaaOf
namespace Go.Proofs.Ytmlmamhcglpfeaa
set_option linter.unusedVariables false
open Go.RowKit

theorem size_r (x : BitVec 128) {ah al r : Int} (hx : IsW ah al x) (hr : (sizeW x : Int) = r) (w : World) :
    Calls Try.prog 20 #[.agg #[.int .u64 ah, .int .u64 al]] w fun e w' => e = .returned (.int .i64 r) ∧ Grown w w' := by
  rw [← hr]; exact size_c x hx w

theorem keep4 {W w : World} {a b c d : Addr} {p q r s : Value} (g : Grown W w) (h : W.cell? a = some p ∧ W.cell? b = some q ∧ W.cell? c = some r ∧ W.cell? d = some s) :
    w.cell? a = some p ∧ w.cell? b = some q ∧ w.cell? c = some r ∧ w.cell? d = some s := ⟨gkeep g h.1, gkeep g h.2.1, gkeep g h.2.2.1, gkeep g h.2.2.2⟩
theorem keep5 {V W w : World} {a b c d : Addr} {p q r s : Value} (g : Grown W w) (h : W.cell? a = some p ∧ W.cell? b = some q ∧ W.cell? c = some r ∧ W.cell? d = some s ∧ Hid (Grown V W)) :
    w.cell? a = some p ∧ w.cell? b = some q ∧ w.cell? c = some r ∧ w.cell? d = some s ∧ Hid (Grown V w) := ⟨gkeep g h.1, gkeep g h.2.1, gkeep g h.2.2.1, gkeep g h.2.2.2.1, h.2.2.2.2.out.trans3 g⟩
theorem kalloc {w : World} {a : Addr} {v : Value} {o : Obj} (h : w.cell? a = some v) : (w.alloc o).cell? a = some v := (World.cell?_alloc_some w a o (by rw [h]; rfl)).trans h

theorem ab_word : IsW 0 24930 (wordOf (⟨#[97, 98]⟩ : ByteArray).data.toList) := ⟨by decide, by decide⟩

set_option maxHeartbeats 4000000 in
theorem awake_c (w : World) :
    Calls Try.prog 16 #[] w fun e w' => e = .returned (.bool true) ∧ Grown w w' := by
  go_enter Try.func16, Try.ntmps16
  go_wp2_with (first
    | (go_at_call 15; ((with_reducible refine (new_c 1 _).mono ?_); rintro e w1 ⟨rfl, g1⟩))
    | (go_at_call 23; ((with_reducible refine (of_c ⟨#[97, 98]⟩ (by decide) ab_word _).mono ?_); rintro e w2 ⟨rfl, g2⟩; obtain ⟨k0, k1, _, _⟩ := new2 w1 (.int .u64 0) (.int .u64 1) 24; replace k0 := gkeep g2 k0; replace k1 := gkeep g2 k1))
    | (go_at_call 23; ((with_reducible refine (of_long ⟨#[49, 50, 51, 52, 53, 54, 55, 56, 57, 48, 49, 50, 51, 52, 53, 54, 55]⟩ (by decide) (by decide) _).mono ?_); rintro e w3 ⟨rfl, g3⟩; obtain ⟨m0, m1, _, _⟩ := new2 w2 (.int .u64 0) (.int .u64 24930) 24; replace m0 := gkeep g3 m0; replace m1 := gkeep g3 m1; replace k0 := gkeep g3 (kalloc k0); replace k1 := gkeep g3 (kalloc k1))))
  replace k0 := kalloc (o := .cells #[.int .u64 0, .int .u64 0] 24) k0
  replace k1 := kalloc (o := .cells #[.int .u64 0, .int .u64 0] 24) k1
  replace m0 := kalloc (o := .cells #[.int .u64 0, .int .u64 0] 24) m0
  replace m1 := kalloc (o := .cells #[.int .u64 0, .int .u64 0] 24) m1
  have G : Grown w (w3.alloc (.cells #[.int .u64 0, .int .u64 0] 24)) := (((((g1.alloc _ _).trans3 g2).alloc _ _).trans3 g3).alloc _ _)
  generalize (w3.alloc (.cells #[.int .u64 0, .int .u64 0] 24)) = W at *
  clear g1 g2 g3
  go_region_held3 (fun w' => w'.cell? ⟨w1.heap.size, 0, none⟩ = some (.int .u64 0) ∧ w'.cell? ⟨w1.heap.size, 1, none⟩ = some (.int .u64 1) ∧ w'.cell? ⟨w2.heap.size, 0, none⟩ = some (.int .u64 0) ∧ w'.cell? ⟨w2.heap.size, 1, none⟩ = some (.int .u64 24930) ∧ Hid (Grown w w')) (first | assumption | exact ⟨k0, k1, m0, m1, G⟩ | exact keep5 (by assumption) (by assumption))
    (first
      | (go_at_call 15; ((with_reducible refine (new_c _ _).mono ?_); rintro e w' ⟨rfl, g'⟩))
      | (go_at_call 17; ((with_reducible refine (add_c (18446744073709551615#128) (1#128) (rh := 1) (rl := 0) ⟨by decide, by decide⟩ ⟨by decide, by decide⟩ ⟨by decide, by decide⟩ _).mono ?_); rintro e w' ⟨rfl, g'⟩))
      | (go_at_call 18; ((with_reducible refine (sub_c (0#128) (1#128) (rh := 18446744073709551615) (rl := 18446744073709551615) ⟨by decide, by decide⟩ ⟨by decide, by decide⟩ ⟨by decide, by decide⟩ _).mono ?_); rintro e w' ⟨rfl, g'⟩))
      | (go_at_call 14; ((with_reducible refine (left_c (1#128) 127 (rh := 9223372036854775808) (rl := 0) (by decide) (by decide) ⟨by decide, by decide⟩ ⟨by decide, by decide⟩ _).mono ?_); rintro e w' ⟨rfl, g'⟩))
      | (go_at_call 21; ((with_reducible refine (right_c (170141183460469231731687303715884105728#128) 127 (rh := 0) (rl := 1) (by decide) (by decide) ⟨by decide, by decide⟩ ⟨by decide, by decide⟩ _).mono ?_); rintro e w' ⟨rfl, g'⟩))
      | (go_at_call 19; ((with_reducible refine (mask_c 65 (rh := 1) (rl := 18446744073709551615) (by decide) (by decide) ⟨by decide, by decide⟩ _).mono ?_); rintro e w' ⟨rfl, g'⟩))
      | (go_at_call 20; ((with_reducible refine (size_r (0#128) (r := 0) ⟨by decide, by decide⟩ (by decide) _).mono ?_); rintro e w' ⟨rfl, g'⟩))
      | (go_at_call 20; ((with_reducible refine (size_r (36893488147419103231#128) (r := 65) ⟨by decide, by decide⟩ (by decide) _).mono ?_); rintro e w' ⟨rfl, g'⟩)))
  have HG : Hid (Grown w w') := by
    have h := ‹_ ∧ _ ∧ _ ∧ _ ∧ Hid (Grown w w')›
    exact h.2.2.2.2
  go_wp2
  go_ret
  exact ⟨rfl, HG.out⟩

end Go.Proofs.Ytmlmamhcglpfeaa
