/- Package graph: the form of a node: by walks of its code. -/
import Derived.Test.YtilebacnjagneaaGMem
namespace Go.Proofs.Ytilebacnjagneaa
set_option linter.unusedVariables false
open Go.ChangeShapes Go.WideShapes Go.ChangeAt Go.RowKit Go.Joins

set_option maxHeartbeats 2000000 in
theorem gbetween_c (n lo hi : Int) (w : World) {b : Bool} (hb : (decide (lo ≤ n) && decide (n ≤ hi)) = b) : Calls Try.prog 23 #[.int .i64 n, .int .i64 lo, .int .i64 hi] w fun e w' => e = .returned (.bool b) ∧ Wider w w' := by
  have H := Wider.refl w
  by_cases c : lo ≤ n
  · have c1 : decide (lo ≤ n) = true := decide_eq_true c
    rw [c1, Bool.true_and] at hb
    clear c
    go_enter Try.func23, Try.ntmps23
    go_wp2
    go_ret
    exact ⟨rfl, H⟩
  · have c1 : decide (lo ≤ n) = false := decide_eq_false c
    rw [c1, Bool.false_and] at hb
    subst hb
    clear c
    go_enter Try.func23, Try.ntmps23
    go_wp2
    go_ret
    exact ⟨rfl, H⟩
set_option maxHeartbeats 4000000 in
theorem glen_c (x : NodV) (A : Option Addr) (n c : Nat) (w : World) : Calls Try.prog 24 #[nodA x A n c] w fun e w' => e = .returned (.bool (lenF x)) ∧ Wider w w' := by
  obtain ⟨id, size, lo, lw, lu, so, sw, arms, oth⟩ := x
  show Calls Try.prog 24 #[.agg #[.int .i64 id, .int .i64 size, .int .i64 lo, .int .i64 lw, .int .i64 lu, .int .i64 so, .int .i64 sw, .slice A n c, .int .i64 oth]] w _
  have H := ((Wider.refl w).alloc (.cells #[.int .i64 id, .int .i64 size, .int .i64 lo, .int .i64 lw, .int .i64 lu, .int .i64 so, .int .i64 sw, .slice A n c, .int .i64 oth] 28))
  obtain ⟨_, _, d2, _, d4, _, _, _, _⟩ := NodeB.new w ⟨id, size, lo, lw, lu, so, sw, arms, oth⟩ A n c
  obtain ⟨r, hr⟩ : ∃ r, lenF ⟨id, size, lo, lw, lu, so, sw, arms, oth⟩ = r := ⟨_, rfl⟩
  rw [hr]
  have HR := Lib.hid hr
  clear hr
  by_cases c0 : lw = 0
  · subst c0
    by_cases c1 : lo = 0
    · subst c1
      go_enter Try.func24, Try.ntmps24
      go_wp2
      go_ret
      refine ⟨?_, H⟩
      rw [← HR.out]
      simp [lenF]
      rfl
    · have e1 : (lo == 0) = false := by simpa using c1
      go_enter Try.func24, Try.ntmps24
      go_wp2
      go_ret
      refine ⟨?_, H⟩
      rw [← HR.out]
      simp [lenF, c1]
  · have e0 : (lw == 0) = false := by simpa using c0
    have e : lenF ⟨id, size, lo, lw, lu, so, sw, arms, oth⟩ = ((decide (1 ≤ lw) && decide (lw ≤ 16)) && (decide (1 ≤ lu) && decide (lu ≤ 256)) && (decide (0 ≤ lo) && decide (lo ≤ 2048))) := by
      unfold lenF; rw [if_neg c0]; simp only [Bool.and_assoc]
    obtain ⟨b1, h1⟩ : ∃ b, (decide (1 ≤ lw) && decide (lw ≤ 16)) = b := ⟨_, rfl⟩
    obtain ⟨b2, h2⟩ : ∃ b, (decide (1 ≤ lu) && decide (lu ≤ 256)) = b := ⟨_, rfl⟩
    obtain ⟨b3, h3⟩ : ∃ b, (decide (0 ≤ lo) && decide (lo ≤ 2048)) = b := ⟨_, rfl⟩
    have z1 := fun W => gbetween_c lw 1 16 W h1
    have z2 := fun W => gbetween_c lu 1 256 W h2
    have z3 := fun W => gbetween_c lo 0 2048 W h3
    rw [h1, h2, h3, HR.out] at e
    have HE := Lib.hid e
    clear h1 h2 h3 c0 e
    cases b1 <;> cases b2 <;>
    · go_enter Try.func24, Try.ntmps24
      go_wp2_with (first
        | (go_at_call 23; ((with_reducible refine (z1 _).mono ?_); rintro e w1 ⟨rfl, g⟩; replace H := H.trans g; replace d2 := wkeep g d2; replace d4 := wkeep g d4; clear z1 g))
        | (go_at_call 23; ((with_reducible refine (z2 _).mono ?_); rintro e w1 ⟨rfl, g⟩; replace H := H.trans g; replace d2 := wkeep g d2; clear z2 g))
        | (go_at_call 23; ((with_reducible refine (z3 _).mono ?_); rintro e w1 ⟨rfl, g⟩; replace H := H.trans g; clear z3 g)))
      go_ret
      refine ⟨?_, H⟩
      rw [HE.out]
      rfl

end Go.Proofs.Ytilebacnjagneaa
