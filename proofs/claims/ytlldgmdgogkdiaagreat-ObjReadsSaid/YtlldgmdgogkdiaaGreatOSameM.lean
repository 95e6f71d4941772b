/- The helper same of layer 8's laws: are all objects of two messages the same, by a walk. -/
import Derived.Test.YtlldgmdgogkdiaaGreatORsG
import Derived.Test.YtlldgmdgogkdiaaGreatOMsgA
namespace Go.Proofs.YtlldgmdgogkdiaaGreat
set_option linter.unusedVariables false
set_option maxRecDepth 20000
open Go.ChangeShapes Go.WideShapes Go.ChangeAt Go.RowKit Go.Joins
open Go.ChangeMaps (open_string shut_string)

theorem some_bool2 (p : Prop) : ∃ b : Bool, b = true ↔ p := by
  by_cases h : p
  · exact ⟨true, by simp [h]⟩
  · exact ⟨false, by simp [h]⟩
theorem tell_bool2 {p : Prop} {a b : Bool} (h : a = true ↔ p) (k : b = true ↔ p) : a = b := by
  cases a <;> cases b <;> simp_all
set_option maxHeartbeats 16000000 in
theorem same_c (w : World) {M N : Array Value} {V U : Nat → List ValN} (R : RepA w M V) (Q : RepA w N U) {r : Bool} (hr : r = true ↔ ∀ k, k < 8 → V k = U k) :
    Calls Tryz.prog 14 #[.agg M, .agg N] w fun e w' => e = .returned (.bool r) ∧ Wider w w' := by
  obtain ⟨r0, h0⟩ := some_bool2 (V 0 = U 0)
  obtain ⟨r1, h1⟩ := some_bool2 (V 1 = U 1)
  obtain ⟨r2, h2⟩ := some_bool2 (V 2 = U 2)
  obtain ⟨r3, h3⟩ := some_bool2 (V 3 = U 3)
  obtain ⟨r4, h4⟩ := some_bool2 (V 4 = U 4)
  obtain ⟨r5, h5⟩ := some_bool2 (V 5 = U 5)
  obtain ⟨r6, h6⟩ := some_bool2 (V 6 = U 6)
  obtain ⟨r7, h7⟩ := some_bool2 (V 7 = U 7)
  have e : (r0 && r1 && r2 && r3 && r4 && r5 && r6 && r7) = r := by
    refine tell_bool2 (p := ∀ k, k < 8 → V k = U k) ?_ hr
    simp only [Bool.and_eq_true, h0, h1, h2, h3, h4, h5, h6, h7]
    constructor
    · rintro ⟨⟨⟨⟨⟨⟨⟨g0, g1⟩, g2⟩, g3⟩, g4⟩, g5⟩, g6⟩, g7⟩ k hk
      match k, hk with
      | 0, _ => exact g0
      | 1, _ => exact g1
      | 2, _ => exact g2
      | 3, _ => exact g3
      | 4, _ => exact g4
      | 5, _ => exact g5
      | 6, _ => exact g6
      | 7, _ => exact g7
      | k + 8, h => omega
    · intro g
      exact ⟨⟨⟨⟨⟨⟨⟨g 0 (by decide), g 1 (by decide)⟩, g 2 (by decide)⟩, g 3 (by decide)⟩, g 4 (by decide)⟩, g 5 (by decide)⟩, g 6 (by decide)⟩, g 7 (by decide)⟩
  subst e
  clear hr
  have sM := R.size
  have sN := Q.size
  have G0 := ((Wider.refl w).alloc (.cells M 46)).alloc (.cells N 46)
  have hz : (w.alloc (.cells M 46)).heap.size = w.heap.size + 1 := by simp
  have hA := wide_blk (heap_alloc_new w (.cells M 46)) ((Wider.refl _).alloc (.cells N 46))
  have hB := heap_alloc_new (w.alloc (.cells M 46)) (.cells N 46)
  rw [hz] at hB
  go_enter Tryz.func14, Tryz.ntmps14
  go_upto_region 1 with (fail)
  obtain ⟨w1, hw1⟩ : ∃ w1, (w.alloc (.cells M 46)).alloc (.cells N 46) = w1 := ⟨_, rfl⟩
  rw [hw1] at hA hB G0 ⊢
  replace R := R.on G0
  replace Q := Q.on G0
  clear hw1 hz
  have R0 := R.r0
  have Q0 := Q.r0
  have R1 := R.r1
  have Q1 := Q.r1
  have R2 := R.r2
  have Q2 := Q.r2
  have R3 := R.r3
  have Q3 := Q.r3
  have R4 := R.r4
  have Q4 := Q.r4
  have R5 := R.r5
  have Q5 := Q.r5
  have R6 := R.r6
  have Q6 := Q.r6
  have R7 := R.r7
  have Q7 := Q.r7
  have hX := after_blk hA
  have hY := after_blk hB
  have G1 : Hid (Wider w w1) := G0
  clear G0 hA hB R Q
  refine wp_region_plain (Wider.refl w1) ?_
  go_big_quiet_want; (refine quiet_field 46 (.tmp 2) 11 rfl w.heap.size 0 11 rfl (fieldM11 _) ?_); go_big_quiet_on; simp only [Act.put, List.setIfInBounds_toArray, List.set_cons_succ, List.set_cons_zero]
  go_big_quiet_want; (refine quiet_load 27 (.tmp 5) rfl w.heap.size 11 9 20 rfl rfl _ hX (by rw [sM]; decide) Tryz.underlying27 rfl (by kernel_rfl) ?_); go_big_quiet_on; simp only [Act.put, List.setIfInBounds_toArray, List.set_cons_succ, List.set_cons_zero]
  go_big_quiet_want; (refine quiet_field 46 (.tmp 3) 11 rfl (w.heap.size + 1) 0 11 rfl (fieldM11 _) ?_); go_big_quiet_on; simp only [Act.put, List.setIfInBounds_toArray, List.set_cons_succ, List.set_cons_zero]
  go_big_quiet_want; (refine quiet_load 27 (.tmp 7) rfl (w.heap.size + 1) 11 9 20 rfl rfl _ hY (by rw [sN]; decide) Tryz.underlying27 rfl (by kernel_rfl) ?_); go_big_quiet_on; simp only [Act.put, List.setIfInBounds_toArray, List.set_cons_succ, List.set_cons_zero]
  go_big_quiet_step (first | (go_at_call 56; exact quiet_after ((R0.on (After.h _)).same (Q0.on (After.h _)) h0)))
  go_big_quiet_step (fail)
  (try simp only [Bool.false_eq_true, ↓reduceIte])
  cases r0
  case false => (repeat (go_big_quiet_step (fail); (try simp only [Bool.false_eq_true, ↓reduceIte]))); refine wpQuiet_nil ?_; rintro _ ⟨y, rfl⟩; have HY := y.h; go_wp2; go_ret; exact ⟨rfl, G1.out.trans HY⟩
  go_big_quiet_want; (refine quiet_field 46 (.tmp 2) 12 rfl w.heap.size 0 20 rfl (fieldM12 _) ?_); go_big_quiet_on; simp only [Act.put, List.setIfInBounds_toArray, List.set_cons_succ, List.set_cons_zero]
  go_big_quiet_want; (refine quiet_load 29 (.tmp 11) rfl w.heap.size 20 5 25 rfl rfl _ hX (by rw [sM]; decide) Tryz.underlying29 rfl (by kernel_rfl) ?_); go_big_quiet_on; simp only [Act.put, List.setIfInBounds_toArray, List.set_cons_succ, List.set_cons_zero]
  go_big_quiet_want; (refine quiet_field 46 (.tmp 3) 12 rfl (w.heap.size + 1) 0 20 rfl (fieldM12 _) ?_); go_big_quiet_on; simp only [Act.put, List.setIfInBounds_toArray, List.set_cons_succ, List.set_cons_zero]
  go_big_quiet_want; (refine quiet_load 29 (.tmp 13) rfl (w.heap.size + 1) 20 5 25 rfl rfl _ hY (by rw [sN]; decide) Tryz.underlying29 rfl (by kernel_rfl) ?_); go_big_quiet_on; simp only [Act.put, List.setIfInBounds_toArray, List.set_cons_succ, List.set_cons_zero]
  go_big_quiet_step (first | (go_at_call 57; exact quiet_after ((R1.on (After.h _)).same (Q1.on (After.h _)) h1)))
  go_big_quiet_step (fail)
  (try simp only [Bool.false_eq_true, ↓reduceIte])
  go_big_quiet_step (fail)
  (try simp only [Bool.false_eq_true, ↓reduceIte])
  cases r1
  case false => (repeat (go_big_quiet_step (fail); (try simp only [Bool.false_eq_true, ↓reduceIte]))); refine wpQuiet_nil ?_; rintro _ ⟨y, rfl⟩; have HY := y.h; go_wp2; go_ret; exact ⟨rfl, G1.out.trans HY⟩
  go_big_quiet_want; (refine quiet_field 46 (.tmp 2) 13 rfl w.heap.size 0 25 rfl (fieldM13 _) ?_); go_big_quiet_on; simp only [Act.put, List.setIfInBounds_toArray, List.set_cons_succ, List.set_cons_zero]
  go_big_quiet_want; (refine quiet_load 32 (.tmp 18) rfl w.heap.size 25 5 30 rfl rfl _ hX (by rw [sM]; decide) Tryz.underlying32 rfl (by kernel_rfl) ?_); go_big_quiet_on; simp only [Act.put, List.setIfInBounds_toArray, List.set_cons_succ, List.set_cons_zero]
  go_big_quiet_want; (refine quiet_field 46 (.tmp 3) 13 rfl (w.heap.size + 1) 0 25 rfl (fieldM13 _) ?_); go_big_quiet_on; simp only [Act.put, List.setIfInBounds_toArray, List.set_cons_succ, List.set_cons_zero]
  go_big_quiet_want; (refine quiet_load 32 (.tmp 20) rfl (w.heap.size + 1) 25 5 30 rfl rfl _ hY (by rw [sN]; decide) Tryz.underlying32 rfl (by kernel_rfl) ?_); go_big_quiet_on; simp only [Act.put, List.setIfInBounds_toArray, List.set_cons_succ, List.set_cons_zero]
  go_big_quiet_step (first | (go_at_call 58; exact quiet_after ((R2.on (After.h _)).same (Q2.on (After.h _)) h2)))
  go_big_quiet_step (fail)
  (try simp only [Bool.false_eq_true, ↓reduceIte])
  go_big_quiet_step (fail)
  (try simp only [Bool.false_eq_true, ↓reduceIte])
  cases r2
  case false => (repeat (go_big_quiet_step (fail); (try simp only [Bool.false_eq_true, ↓reduceIte]))); refine wpQuiet_nil ?_; rintro _ ⟨y, rfl⟩; have HY := y.h; go_wp2; go_ret; exact ⟨rfl, G1.out.trans HY⟩
  go_big_quiet_want; (refine quiet_field 46 (.tmp 2) 14 rfl w.heap.size 0 30 rfl (fieldM14 _) ?_); go_big_quiet_on; simp only [Act.put, List.setIfInBounds_toArray, List.set_cons_succ, List.set_cons_zero]
  go_big_quiet_want; (refine quiet_load 34 (.tmp 25) rfl w.heap.size 30 11 41 rfl rfl _ hX (by rw [sM]; decide) Tryz.underlying34 rfl (by kernel_rfl) ?_); go_big_quiet_on; simp only [Act.put, List.setIfInBounds_toArray, List.set_cons_succ, List.set_cons_zero]
  go_big_quiet_want; (refine quiet_field 46 (.tmp 3) 14 rfl (w.heap.size + 1) 0 30 rfl (fieldM14 _) ?_); go_big_quiet_on; simp only [Act.put, List.setIfInBounds_toArray, List.set_cons_succ, List.set_cons_zero]
  go_big_quiet_want; (refine quiet_load 34 (.tmp 27) rfl (w.heap.size + 1) 30 11 41 rfl rfl _ hY (by rw [sN]; decide) Tryz.underlying34 rfl (by kernel_rfl) ?_); go_big_quiet_on; simp only [Act.put, List.setIfInBounds_toArray, List.set_cons_succ, List.set_cons_zero]
  go_big_quiet_step (first | (go_at_call 59; exact quiet_after ((R3.on (After.h _)).same (Q3.on (After.h _)) h3)))
  go_big_quiet_step (fail)
  (try simp only [Bool.false_eq_true, ↓reduceIte])
  go_big_quiet_step (fail)
  (try simp only [Bool.false_eq_true, ↓reduceIte])
  cases r3
  case false => (repeat (go_big_quiet_step (fail); (try simp only [Bool.false_eq_true, ↓reduceIte]))); refine wpQuiet_nil ?_; rintro _ ⟨y, rfl⟩; have HY := y.h; go_wp2; go_ret; exact ⟨rfl, G1.out.trans HY⟩
  go_big_quiet_want; (refine quiet_field 46 (.tmp 2) 15 rfl w.heap.size 0 41 rfl (fieldM15 _) ?_); go_big_quiet_on; simp only [Act.put, List.setIfInBounds_toArray, List.set_cons_succ, List.set_cons_zero]
  go_big_quiet_want; (refine quiet_load 37 (.tmp 32) rfl w.heap.size 41 2 43 rfl rfl _ hX (by rw [sM]; decide) Tryz.underlying37 rfl (by kernel_rfl) ?_); go_big_quiet_on; simp only [Act.put, List.setIfInBounds_toArray, List.set_cons_succ, List.set_cons_zero]
  go_big_quiet_want; (refine quiet_field 46 (.tmp 3) 15 rfl (w.heap.size + 1) 0 41 rfl (fieldM15 _) ?_); go_big_quiet_on; simp only [Act.put, List.setIfInBounds_toArray, List.set_cons_succ, List.set_cons_zero]
  go_big_quiet_want; (refine quiet_load 37 (.tmp 34) rfl (w.heap.size + 1) 41 2 43 rfl rfl _ hY (by rw [sN]; decide) Tryz.underlying37 rfl (by kernel_rfl) ?_); go_big_quiet_on; simp only [Act.put, List.setIfInBounds_toArray, List.set_cons_succ, List.set_cons_zero]
  go_big_quiet_step (first | (go_at_call 60; exact quiet_after ((R4.on (After.h _)).same (Q4.on (After.h _)) h4)))
  go_big_quiet_step (fail)
  (try simp only [Bool.false_eq_true, ↓reduceIte])
  go_big_quiet_step (fail)
  (try simp only [Bool.false_eq_true, ↓reduceIte])
  cases r4
  case false => (repeat (go_big_quiet_step (fail); (try simp only [Bool.false_eq_true, ↓reduceIte]))); refine wpQuiet_nil ?_; rintro _ ⟨y, rfl⟩; have HY := y.h; go_wp2; go_ret; exact ⟨rfl, G1.out.trans HY⟩
  go_big_quiet_want; (refine quiet_field 46 (.tmp 2) 16 rfl w.heap.size 0 43 rfl (fieldM16 _) ?_); go_big_quiet_on; simp only [Act.put, List.setIfInBounds_toArray, List.set_cons_succ, List.set_cons_zero]
  go_big_quiet_want; (refine quiet_load 40 (.tmp 39) rfl w.heap.size 43 4 47 rfl rfl _ hX (by rw [sM]; decide) Tryz.underlying40 rfl (by kernel_rfl) ?_); go_big_quiet_on; simp only [Act.put, List.setIfInBounds_toArray, List.set_cons_succ, List.set_cons_zero]
  go_big_quiet_want; (refine quiet_field 46 (.tmp 3) 16 rfl (w.heap.size + 1) 0 43 rfl (fieldM16 _) ?_); go_big_quiet_on; simp only [Act.put, List.setIfInBounds_toArray, List.set_cons_succ, List.set_cons_zero]
  go_big_quiet_want; (refine quiet_load 40 (.tmp 41) rfl (w.heap.size + 1) 43 4 47 rfl rfl _ hY (by rw [sN]; decide) Tryz.underlying40 rfl (by kernel_rfl) ?_); go_big_quiet_on; simp only [Act.put, List.setIfInBounds_toArray, List.set_cons_succ, List.set_cons_zero]
  go_big_quiet_step (first | (go_at_call 61; exact quiet_after ((R5.on (After.h _)).same (Q5.on (After.h _)) h5)))
  go_big_quiet_step (fail)
  (try simp only [Bool.false_eq_true, ↓reduceIte])
  go_big_quiet_step (fail)
  (try simp only [Bool.false_eq_true, ↓reduceIte])
  cases r5
  case false => (repeat (go_big_quiet_step (fail); (try simp only [Bool.false_eq_true, ↓reduceIte]))); refine wpQuiet_nil ?_; rintro _ ⟨y, rfl⟩; have HY := y.h; go_wp2; go_ret; exact ⟨rfl, G1.out.trans HY⟩
  go_big_quiet_want; (refine quiet_field 46 (.tmp 2) 17 rfl w.heap.size 0 47 rfl (fieldM17 _) ?_); go_big_quiet_on; simp only [Act.put, List.setIfInBounds_toArray, List.set_cons_succ, List.set_cons_zero]
  go_big_quiet_want; (refine quiet_load 42 (.tmp 46) rfl w.heap.size 47 3 50 rfl rfl _ hX (by rw [sM]; decide) Tryz.underlying42 rfl (by kernel_rfl) ?_); go_big_quiet_on; simp only [Act.put, List.setIfInBounds_toArray, List.set_cons_succ, List.set_cons_zero]
  go_big_quiet_want; (refine quiet_field 46 (.tmp 3) 17 rfl (w.heap.size + 1) 0 47 rfl (fieldM17 _) ?_); go_big_quiet_on; simp only [Act.put, List.setIfInBounds_toArray, List.set_cons_succ, List.set_cons_zero]
  go_big_quiet_want; (refine quiet_load 42 (.tmp 48) rfl (w.heap.size + 1) 47 3 50 rfl rfl _ hY (by rw [sN]; decide) Tryz.underlying42 rfl (by kernel_rfl) ?_); go_big_quiet_on; simp only [Act.put, List.setIfInBounds_toArray, List.set_cons_succ, List.set_cons_zero]
  go_big_quiet_step (first | (go_at_call 62; exact quiet_after ((R6.on (After.h _)).same (Q6.on (After.h _)) h6)))
  go_big_quiet_step (fail)
  (try simp only [Bool.false_eq_true, ↓reduceIte])
  go_big_quiet_step (fail)
  (try simp only [Bool.false_eq_true, ↓reduceIte])
  cases r6
  case false => (repeat (go_big_quiet_step (fail); (try simp only [Bool.false_eq_true, ↓reduceIte]))); refine wpQuiet_nil ?_; rintro _ ⟨y, rfl⟩; have HY := y.h; go_wp2; go_ret; exact ⟨rfl, G1.out.trans HY⟩
  go_big_quiet_want; (refine quiet_field 46 (.tmp 2) 18 rfl w.heap.size 0 50 rfl (fieldM18 _) ?_); go_big_quiet_on; simp only [Act.put, List.setIfInBounds_toArray, List.set_cons_succ, List.set_cons_zero]
  go_big_quiet_want; (refine quiet_load 44 (.tmp 53) rfl w.heap.size 50 2 52 rfl rfl _ hX (by rw [sM]; decide) Tryz.underlying44 rfl (by kernel_rfl) ?_); go_big_quiet_on; simp only [Act.put, List.setIfInBounds_toArray, List.set_cons_succ, List.set_cons_zero]
  go_big_quiet_want; (refine quiet_field 46 (.tmp 3) 18 rfl (w.heap.size + 1) 0 50 rfl (fieldM18 _) ?_); go_big_quiet_on; simp only [Act.put, List.setIfInBounds_toArray, List.set_cons_succ, List.set_cons_zero]
  go_big_quiet_want; (refine quiet_load 44 (.tmp 55) rfl (w.heap.size + 1) 50 2 52 rfl rfl _ hY (by rw [sN]; decide) Tryz.underlying44 rfl (by kernel_rfl) ?_); go_big_quiet_on; simp only [Act.put, List.setIfInBounds_toArray, List.set_cons_succ, List.set_cons_zero]
  go_big_quiet_step (first | (go_at_call 63; exact quiet_after ((R7.on (After.h _)).same (Q7.on (After.h _)) h7)))
  go_big_quiet_step (fail)
  (try simp only [Bool.false_eq_true, ↓reduceIte])
  cases r7
  case false => (repeat (go_big_quiet_step (fail); (try simp only [Bool.false_eq_true, ↓reduceIte]))); refine wpQuiet_nil ?_; rintro _ ⟨y, rfl⟩; have HY := y.h; go_wp2; go_ret; exact ⟨rfl, G1.out.trans HY⟩
  (repeat (go_big_quiet_step (fail); (try simp only [Bool.false_eq_true, ↓reduceIte]))); refine wpQuiet_nil ?_; rintro _ ⟨y, rfl⟩; have HY := y.h; go_wp2; go_ret; exact ⟨rfl, G1.out.trans HY⟩
end Go.Proofs.YtlldgmdgogkdiaaGreat
