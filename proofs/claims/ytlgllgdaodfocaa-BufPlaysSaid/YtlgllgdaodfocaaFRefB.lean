/- What the document's answers Get, Prefix and Match of layer 2 do. -/
import Derived.Test.YtlgllgdaodfocaaFRef
namespace Go.Proofs.Ytlgllgdaodfocaa
set_option linter.unusedVariables false
open Go.RowKit

theorem rget_bad (s : ByteArray) (off width : Int) {r : Int} (hs : s.size < 1152921504606846976) (o0 : -9223372036854775808 ≤ off) (o1 : off ≤ 9223372036854775807) (w0 : -9223372036854775808 ≤ width) (w1 : width ≤ 9223372036854775807) (hr : errF s.size off width = r) (hne : (r == 0) = false) (w : World) :
    Calls Try.prog 43 #[.string s, .int .i64 off, .int .i64 width] w fun e w' => e = .returned (.tuple #[.agg #[.int .u64 0, .int .u64 0], .int .i64 r]) ∧ Grown w w' := by
  by_cases c : 0 < width
  all_goals
    first
      | have d : decide (0 < width) = true := decide_eq_true c
      | have d : decide (0 < width) = false := decide_eq_false c
    go_enter Try.func43, Try.ntmps43
    go_wp2_with (go_at_call 44; ((with_reducible refine (may_c s off width hs o0 o1 w0 w1 hr _).mono ?_); rintro e w2 ⟨rfl, rfl⟩))
    go_loopw [10] (fun i wr => i = .int .i64 0 ∧ Ofx w (0#128) 0 0 wr) (fun _ _ => 0)
    case atStart =>
      refine ⟨rfl, ?_⟩
      refine ⟨?_, ?_, ?_, ?_, ?_, ?_, ?_, ?_, ((Grown.refl _).alloc _ _).alloc _ _, (⟨by decide, by decide⟩ : IsW 0 0 (0#128))⟩ <;> simp [go_sem]
    case round =>
      obtain ⟨rfl, hO⟩ := hrel
      have c0 := hO.c0
      have c1 := hO.c1
      have r0 := hO.r0
      have r1 := hO.r1
      have s0 := hO.s0
      have s1 := hO.s1
      go_wp2
      simp [bodyPost, results, Try.results43, go_sem, r0, r1]
      exact (hO.grown.setCell (Nat.le_refl _) _).setCell (Nat.le_refl _) _

set_option maxHeartbeats 4000000 in
theorem rget_c (s : ByteArray) (off n : Nat) {rh rl : Int} (hs : s.size < 1152921504606846976) (h1 : 1 ≤ n) (h2 : n ≤ 128) (h3 : off + n ≤ 8 * s.size) (hr : IsW rh rl (fldW s off n)) (w : World) :
    Calls Try.prog 43 #[.string s, .int .i64 (off : Int), .int .i64 (n : Int)] w fun e w' => e = .returned (.tuple #[.agg #[.int .u64 rh, .int .u64 rl], .int .i64 0]) ∧ Grown w w' := by
  have he := errF_of h1 h2 h3
  go_enter Try.func43, Try.ntmps43
  go_wp2_with (go_at_call 44; ((with_reducible refine (may_c s off n hs (by omega) (by omega) (by omega) (by omega) he _).mono ?_); rintro e w2 ⟨rfl, rfl⟩))
  clear he
  go_loopw [10] (fun i wr => ∃ k : Nat, k ≤ n ∧ i = .int .i64 k ∧ ∃ h l : Int, Ofx w (fldW s off k) h l wr) (fun i _ => n - (intOf i).toNat)
  case atStart =>
    refine ⟨0, by omega, rfl, 0, 0, ?_⟩
    refine ⟨?_, ?_, ?_, ?_, ?_, ?_, ?_, ?_, ((Grown.refl _).alloc _ _).alloc _ _, (⟨by decide, by decide⟩ : IsW 0 0 (0#128))⟩ <;> simp [go_sem]
  case round =>
    obtain ⟨k, hk, rfl, h, l, hO⟩ := hrel
    have c0 := hO.c0
    have c1 := hO.c1
    by_cases hlt : k < n
    · obtain ⟨p', q', hp'⟩ := isW_ex (fldW s off (k + 1))
      obtain ⟨b, hb⟩ : ∃ b : Nat, bitS s (off + k) = b := ⟨_, rfl⟩
      have hb1 : b ≤ 1 := by rw [← hb]; exact bitS_le _ _
      have ho : IsW p' q' (BitVec.ofNat 128 (2 * (fldW s off k).toNat + b)) := by rw [← hb, ← fldW_twice]; exact hp'
      have bl : ∀ W : World, Calls Try.prog 51 #[.string s, .int .i64 ((off : Int) + (k : Int))] W fun e w' => e = .returned (.int .u64 (b : Int)) ∧ w' = W := bit_c s (off + k) hs (by omega) hb
      have tw : ∀ W : World, Calls Try.prog 50 #[.agg #[.int .u64 h, .int .u64 l], .int .u64 (b : Int)] W fun e w' => e = .returned (.agg #[.int .u64 p', .int .u64 q']) ∧ Grown W w' := rtwice_c (fldW s off k) b hb1 hO.num ho
      have hlt' : decide ((k : Int) < (n : Int)) = true := decide_eq_true (by omega)
      have f0 : IntKind.i64.wrap ((off : Int) + (k : Int)) = (off : Int) + (k : Int) := IntWalk.i64_in _ (by omega)
      clear ho hb
      go_wp2_with fail
      go_region_with (first
        | (go_at_call 51; ((with_reducible refine (bl _).mono ?_); rintro e w2 ⟨rfl, rfl⟩))
        | (go_at_call 50; ((with_reducible refine (tw _).mono ?_); rintro e w3 ⟨rfl, g3⟩; have hQ := hO.on g3; have d0 := hQ.c0; have d1 := hQ.c1; have d2 := hQ.f0; have d3 := hQ.f1)))
      all_goals
        go_wp2
        go_roundw
        case rel => exact ⟨k + 1, by omega, by go_num, p', q', hQ.put hp'⟩
        case measure => simp [intOf]; omega
    · obtain rfl : k = n := by omega
      have hlt' : decide ((k : Int) < (k : Int)) = false := decide_eq_false (by omega)
      have r0 := hO.r0
      have r1 := hO.r1
      have s0 := hO.s0
      have s1 := hO.s1
      obtain rfl : h = rh := hO.num.h.trans hr.h.symm
      obtain rfl : l = rl := hO.num.l.trans hr.l.symm
      go_wp2
      simp [bodyPost, results, Try.results43, go_sem, r0, r1]
      exact (hO.grown.setCell (Nat.le_refl _) _).setCell (Nat.le_refl _) _

theorem rget_g (s : ByteArray) (off width : Int) {h l r : Int} (hs : s.size < 1152921504606846976) (o0 : -9223372036854775808 ≤ off) (o1 : off ≤ 9223372036854775807) (w0 : -9223372036854775808 ≤ width) (w1 : width ≤ 9223372036854775807) (hr : GetR s off width h l r) (w : World) :
    Calls Try.prog 43 #[.string s, .int .i64 off, .int .i64 width] w fun e w' => e = .returned (.tuple #[.agg #[.int .u64 h, .int .u64 l], .int .i64 r]) ∧ Grown w w' := by
  obtain ⟨k1, k2, k3⟩ := hr
  by_cases e : r = 0
  · subst e
    obtain ⟨o, n, rfl, rfl, h1, h2, h3⟩ := errF_ok k1
    exact rget_c s o n hs h1 h2 h3 (k2 rfl) w
  · obtain ⟨rfl, rfl⟩ := k3 e
    exact rget_bad s off width hs o0 o1 w0 w1 k1 (by simpa using e) w

end Go.Proofs.Ytlgllgdaodfocaa
