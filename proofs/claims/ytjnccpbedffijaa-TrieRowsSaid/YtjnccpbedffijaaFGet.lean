/- What the calls valid, place, check, Get and Bytes of package field do: contracts, by walks. -/
import Derived.Test.YtjnccpbedffijaaFMath
import Derived.Lib.Hide
import Derived.BigQuiet
import Derived.RegionTactic
import Derived.BigRegion
import Derived.Deep.RegionWith
import Derived.Deep.RegionHeld3
namespace Go.Proofs.Ytjnccpbedffijaa
set_option linter.unusedVariables false
open Go.RowKit

theorem valid_t (n : Int) (h0 : 1 ≤ n) (h1 : n ≤ 128) (w : World) :
    Calls Try.prog 43 #[.int .i64 n] w fun e w' => e = .returned (.bool true) ∧ w' = w := by
  have g : decide (1 ≤ n) = true := by simpa using h0
  go_enter Try.func43, Try.ntmps43
  go_wp2
  go_ret
  exact ⟨rfl, rfl⟩
theorem valid_f (n : Int) (h : n < 1 ∨ 128 < n) (w : World) :
    Calls Try.prog 43 #[.int .i64 n] w fun e w' => e = .returned (.bool false) ∧ w' = w := by
  by_cases h0 : 1 ≤ n
  · have h1 : 128 < n := by omega
    have g : decide (1 ≤ n) = true := by simpa using h0
    have g2 : decide (n ≤ 128) = false := by simp; omega
    go_enter Try.func43, Try.ntmps43
    go_wp2
    go_ret
    exact ⟨rfl, rfl⟩
  · have g : decide (1 ≤ n) = false := by simpa using h0
    go_enter Try.func43, Try.ntmps43
    go_wp2
    go_ret
    exact ⟨rfl, rfl⟩
theorem place_c (k : Nat) (hk : k ≤ 9223372036854775807) (w : World) :
    Calls Try.prog 38 #[.int .i64 (k : Int)] w fun e w' => e = .returned (.int .i64 (7 - ((k % 8 : Nat) : Int))) ∧ w' = w := by
  go_enter Try.func38, Try.ntmps38
  go_wp2
  go_ret
  exact ⟨rfl, rfl⟩

/-- What is wrong with a field: 1 (no such field), 4 (the text is too short), or 0. -/
def errF (size : Nat) (off width : Int) : Int := if width < 1 ∨ 128 < width ∨ off < 0 then 1 else if 8 * (size : Int) - width < off then 4 else 0

theorem errF_ok {size : Nat} {off width : Int} (h : errF size off width = 0) : ∃ o n : Nat, off = (o : Int) ∧ width = (n : Int) ∧ 1 ≤ n ∧ n ≤ 128 ∧ o + n ≤ 8 * size := by
  unfold errF at h
  by_cases c : width < 1 ∨ 128 < width ∨ off < 0
  · rw [if_pos c] at h; exact absurd h (by decide)
  · rw [if_neg c] at h
    by_cases d : 8 * (size : Int) - width < off
    · rw [if_pos d] at h; exact absurd h (by decide)
    · exact ⟨off.toNat, width.toNat, by omega, by omega, by omega, by omega, by omega⟩
theorem errF_of {size o n : Nat} (h1 : 1 ≤ n) (h2 : n ≤ 128) (h3 : o + n ≤ 8 * size) : errF size (o : Int) (n : Int) = 0 := by
  unfold errF; rw [if_neg (by omega), if_neg (by omega)]
theorem errF_cases (size : Nat) (off width : Int) : errF size off width = 0 ∨ errF size off width = 1 ∨ errF size off width = 4 := by
  unfold errF
  split
  · exact .inr (.inl rfl)
  · split
    · exact .inr (.inr rfl)
    · exact .inl rfl

theorem check_c (s : ByteArray) (off width : Int) {r : Int} (hs : s.size < 1152921504606846976) (o0 : -9223372036854775808 ≤ off) (o1 : off ≤ 9223372036854775807) (w0 : -9223372036854775808 ≤ width) (w1 : width ≤ 9223372036854775807) (hr : errF s.size off width = r) (w : World) :
    Calls Try.prog 37 #[.string s, .int .i64 off, .int .i64 width] w fun e w' => e = .returned (.int .i64 r) ∧ w' = w := by
  have hb := Nat.zero_le s.size
  by_cases c : width < 1 ∨ 128 < width
  · obtain rfl : r = 1 := by rw [← hr]; unfold errF; rw [if_pos (by omega)]
    clear hr
    go_enter Try.func37, Try.ntmps37
    go_wp2_with (go_at_call 43; ((with_reducible refine (valid_f width c _).mono ?_); rintro e w2 ⟨rfl, rfl⟩))
    go_ret
    exact ⟨rfl, rfl⟩
  · have c1 : 1 ≤ width := by omega
    have c2 : width ≤ 128 := by omega
    by_cases d : off < 0
    · obtain rfl : r = 1 := by rw [← hr]; unfold errF; rw [if_pos (by omega)]
      clear hr
      go_enter Try.func37, Try.ntmps37
      go_wp2_with (go_at_call 43; ((with_reducible refine (valid_t width c1 c2 _).mono ?_); rintro e w2 ⟨rfl, rfl⟩))
      go_ret
      exact ⟨rfl, rfl⟩
    · by_cases f : 8 * (s.size : Int) - width < off
      · obtain rfl : r = 4 := by rw [← hr]; unfold errF; rw [if_neg (by omega), if_pos f]
        clear hr
        go_enter Try.func37, Try.ntmps37
        go_wp2_with (go_at_call 43; ((with_reducible refine (valid_t width c1 c2 _).mono ?_); rintro e w2 ⟨rfl, rfl⟩))
        go_ret
        exact ⟨rfl, rfl⟩
      · obtain rfl : r = 0 := by rw [← hr]; unfold errF; rw [if_neg (by omega), if_neg f]
        clear hr
        go_enter Try.func37, Try.ntmps37
        go_wp2_with (go_at_call 43; ((with_reducible refine (valid_t width c1 c2 _).mono ?_); rintro e w2 ⟨rfl, rfl⟩))
        go_ret
        exact ⟨rfl, rfl⟩

theorem and_1_u8 (n : Nat) (h : n < 256) : bits .and .u8 (n : Int) 1 = ((n % 2 : Nat) : Int) := by
  have : ∀ i : Fin 256, bits .and .u8 ((i.val : Nat) : Int) 1 = ((i.val % 2 : Nat) : Int) := by decide +kernel
  exact this ⟨n, h⟩
theorem bit_of_byte (s : ByteArray) (p : Nat) (h : p / 8 < s.size) : bits .and .u8 ((s[p / 8].toNat : Int) / 2 ^ (7 - p % 8)) 1 = (bitS s p : Int) := by
  have e : ((s[p / 8].toNat : Int) / 2 ^ (7 - p % 8)) = ((s[p / 8].toNat / 2 ^ (7 - p % 8) : Nat) : Int) := by
    rw [Int.natCast_ediv, Int.natCast_pow]; rfl
  have l : s[p / 8].toNat < 256 := UInt8.toNat_lt _
  have l2 : s[p / 8].toNat / 2 ^ (7 - p % 8) ≤ s[p / 8].toNat := Nat.div_le_self _ _
  rw [e, and_1_u8 _ (by omega)]
  unfold bitS
  rw [byteS_at s _ h]
theorem get_bad (s : ByteArray) (off width : Int) {r : Int} (hs : s.size < 1152921504606846976) (o0 : -9223372036854775808 ≤ off) (o1 : off ≤ 9223372036854775807) (w0 : -9223372036854775808 ≤ width) (w1 : width ≤ 9223372036854775807) (hr : errF s.size off width = r) (hne : (r != 0) = true) (w : World) :
    Calls Try.prog 35 #[.string s, .int .i64 off, .int .i64 width] w fun e w' => e = .returned (.tuple #[.agg #[.int .u64 0, .int .u64 0], .int .i64 r]) ∧ Grown w w' := by
  go_enter Try.func35, Try.ntmps35
  go_wp2_with (go_at_call 37; ((with_reducible refine (check_c s off width hs o0 o1 w0 w1 hr _).mono ?_); rintro e w2 ⟨rfl, rfl⟩))
  simp [bodyPost, results, Try.results35, go_sem]
  exact (Grown.refl _).alloc _ _

set_option maxHeartbeats 4000000 in
theorem get_c (s : ByteArray) (off n : Nat) {rh rl : Int} (hs : s.size < 1152921504606846976) (h1 : 1 ≤ n) (h2 : n ≤ 128) (h3 : off + n ≤ 8 * s.size) (hr : IsW rh rl (fldW s off n)) (w : World) :
    Calls Try.prog 35 #[.string s, .int .i64 (off : Int), .int .i64 (n : Int)] w fun e w' => e = .returned (.tuple #[.agg #[.int .u64 rh, .int .u64 rl], .int .i64 0]) ∧ Grown w w' := by
  have he := errF_of h1 h2 h3
  go_enter Try.func35, Try.ntmps35
  go_wp2_with (go_at_call 37; ((with_reducible refine (check_c s off n hs (by omega) (by omega) (by omega) (by omega) he _).mono ?_); rintro e w2 ⟨rfl, rfl⟩))
  clear he
  go_loopw [22] (fun i wr => ∃ k : Nat, k ≤ n ∧ i = .int .i64 k ∧ ∃ h l : Int, Ofx w (fldW s off k) h l wr) (fun i _ => n - (intOf i).toNat)
  case atStart =>
    refine ⟨0, by omega, rfl, 0, 0, ?_⟩
    refine ⟨?_, ?_, ?_, ?_, ?_, ?_, ?_, ?_, ((Grown.refl _).alloc _ _).alloc _ _, (⟨by decide, by decide⟩ : IsW 0 0 (0#128))⟩ <;> simp [go_sem]
  case round =>
    obtain ⟨k, hk, rfl, h, l, hO⟩ := hrel
    have c0 := hO.c0
    have c1 := hO.c1
    by_cases hlt : k < n
    · obtain ⟨p, q, hp⟩ := isW_ex (fldW s off k <<< 1)
      obtain ⟨p', q', hp'⟩ := isW_ex (fldW s off (k + 1))
      have hb := isW_bit (bitS_le s (off + k))
      have ho : IsW p' q' ((fldW s off k <<< 1) ||| BitVec.ofNat 128 (bitS s (off + k))) := by rw [← fldW_or]; exact hp'
      have hlt' : (k : Int) < (n : Int) := by omega
      have i0 : (0 : Int) ≤ ((off : Int) + (k : Int)) / 8 := by omega
      have i1 : ((off : Int) + (k : Int)) / 8 < (s.size : Int) := by omega
      have f1 : IntKind.i64.wrap (((off : Int) + (k : Int)).tdiv 8) = (((off + k) / 8 : Nat) : Int) := by rw [Int.tdiv_eq_ediv_of_nonneg (by omega), IntWalk.i64_in _ (by omega)]; omega
      have i2 : (0 : Int) ≤ (((off + k) / 8 : Nat) : Int) := by omega
      have i3 : (((off + k) / 8 : Nat) : Int) < (s.size : Int) := by omega
      have hbit := bit_of_byte s (off + k) (by omega)
      have hB : IntKind.u64.wrap ((bitS s (off + k) : Nat) : Int) = ((bitS s (off + k) : Nat) : Int) := by have := bitS_le s (off + k); rw [IntKind.wrap_u64]; omega
      have pl := place_c (off + k) (by omega)
      go_wp2
      go_quiet ((go_at_call 38; exact Calls.quiet_of_same (pl _)))
      have hQ := hO.on (gdrewN wr nq)
      have c0 := hQ.c0
      have c1 := hQ.c1
      go_wp2_with (first
        | (go_at_call 40; ((with_reducible refine (left_c _ 1 (by omega) (by omega) hQ.num hp _).mono ?_); rintro e w1 ⟨rfl, g1⟩))
        | (go_at_call 41; ((with_reducible refine (new_c _ _).mono ?_); rintro e w2 ⟨rfl, g2⟩))
        | (go_at_call 39; ((with_reducible refine (or_c _ _ hp hb ho _).mono ?_); rintro e w3 ⟨rfl, g3⟩; have hQ := hQ.on (g1.trans3 (g2.trans3 g3)); have d0 := hQ.c0; have d1 := hQ.c1; have d2 := hQ.f0; have d3 := hQ.f1)))
      go_roundw
      case rel => exact ⟨k + 1, by omega, by go_num, p', q', hQ.put hp'⟩
      case measure => simp [intOf]; omega
    · obtain rfl : k = n := by omega
      have r0 := hO.r0
      have r1 := hO.r1
      have s0 := hO.s0
      have s1 := hO.s1
      obtain rfl : h = rh := hO.num.h.trans hr.h.symm
      obtain rfl : l = rl := hO.num.l.trans hr.l.symm
      go_wp2
      simp [bodyPost, results, Try.results35, go_sem, r0, r1]
      exact (hO.grown.setCell (Nat.le_refl _) _).setCell (Nat.le_refl _) _

theorem get_i (s : ByteArray) (off width : Int) (o n : Nat) (e1 : off = (o : Int)) (e2 : width = (n : Int)) {rh rl : Int} (hs : s.size < 1152921504606846976) (h1 : 1 ≤ n) (h2 : n ≤ 128) (h3 : o + n ≤ 8 * s.size) (hr : IsW rh rl (fldW s o n)) (w : World) :
    Calls Try.prog 35 #[.string s, .int .i64 off, .int .i64 width] w fun e w' => e = .returned (.tuple #[.agg #[.int .u64 rh, .int .u64 rl], .int .i64 0]) ∧ Grown w w' := by
  subst e1 e2; exact get_c s o n hs h1 h2 h3 hr w

end Go.Proofs.Ytjnccpbedffijaa
