/- What the document's answers May, Bit, Twice, Of, Bytes and Get of layer 2 do. -/
import Derived.Test.YtlgllgdaodfocaaFAny
namespace Go.Proofs.Ytlgllgdaodfocaa
set_option linter.unusedVariables false
open Go.RowKit

theorem may_c (s : ByteArray) (off width : Int) {r : Int} (hs : s.size < 1152921504606846976) (o0 : -9223372036854775808 ≤ off) (o1 : off ≤ 9223372036854775807) (w0 : -9223372036854775808 ≤ width) (w1 : width ≤ 9223372036854775807) (hr : errF s.size off width = r) (w : World) :
    Calls Try.prog 44 #[.string s, .int .i64 off, .int .i64 width] w fun e w' => e = .returned (.int .i64 r) ∧ w' = w := by
  have hb := Nat.zero_le s.size
  by_cases c0 : width < 1
  · obtain rfl : r = 1 := by rw [← hr]; unfold errF; rw [if_pos (by omega)]
    clear hr
    have g0 : decide (width < 1) = true := by simpa using c0
    go_enter Try.func44, Try.ntmps44
    go_wp2
    go_ret
    exact ⟨rfl, rfl⟩
  · have g0 : decide (width < 1) = false := by simpa using c0
    by_cases c1 : 128 < width
    · obtain rfl : r = 1 := by rw [← hr]; unfold errF; rw [if_pos (by omega)]
      clear hr
      have g1 : decide (128 < width) = true := by simpa using c1
      go_enter Try.func44, Try.ntmps44
      go_wp2
      go_ret
      exact ⟨rfl, rfl⟩
    · have g1 : decide (128 < width) = false := by simpa using c1
      have c2 : width ≤ 128 := by omega
      by_cases d : off < 0
      · obtain rfl : r = 1 := by rw [← hr]; unfold errF; rw [if_pos (by omega)]
        clear hr
        have g2 : decide (off < 0) = true := by simpa using d
        go_enter Try.func44, Try.ntmps44
        go_wp2
        go_ret
        exact ⟨rfl, rfl⟩
      · have g2 : decide (off < 0) = false := by simpa using d
        by_cases f : 8 * (s.size : Int) - width < off
        · obtain rfl : r = 4 := by rw [← hr]; unfold errF; rw [if_neg (by omega), if_pos f]
          clear hr
          go_enter Try.func44, Try.ntmps44
          go_wp2
          go_ret
          exact ⟨rfl, rfl⟩
        · obtain rfl : r = 0 := by rw [← hr]; unfold errF; rw [if_neg (by omega), if_neg f]
          clear hr
          go_enter Try.func44, Try.ntmps44
          go_wp2
          go_ret
          exact ⟨rfl, rfl⟩

set_option maxHeartbeats 1000000 in
theorem bit_c (s : ByteArray) (at_ : Nat) {b : Nat} (hs : s.size < 1152921504606846976) (h : at_ < 8 * s.size) (hb : bitS s at_ = b) (w : World) :
    Calls Try.prog 51 #[.string s, .int .i64 (at_ : Int)] w fun e w' => e = .returned (.int .u64 (b : Int)) ∧ w' = w := by
  have f1 : IntKind.i64.wrap ((at_ : Int).tdiv 8) = ((at_ / 8 : Nat) : Int) := by rw [Int.tdiv_eq_ediv_of_nonneg (by omega), IntWalk.i64_in _ (by omega)]; omega
  have i0 : (0 : Int) ≤ (at_ : Int) / 8 := by omega
  have i1 : (at_ : Int) / 8 < (s.size : Int) := by omega
  have hj : at_ / 8 < s.size := by omega
  have hv : byteS s (at_ / 8) / 2 ^ (7 - at_ % 8) % 2 = b := hb
  rw [byteS_at s _ hj] at hv
  have l : s[at_ / 8].toNat < 256 := UInt8.toNat_lt _
  go_enter Try.func51, Try.ntmps51
  go_wp2
  generalize s[at_ / 8].toNat = B at *
  go_loop [5, 6] (fun n i => ∃ j : Nat, j ≤ 7 - at_ % 8 ∧ n = .int .i64 ((B / 2 ^ j : Nat) : Int) ∧ i = .int .i64 ((at_ % 8 + j : Nat) : Int)) (fun _ i => 7 - (intOf i).toNat)
  case atStart => exact ⟨0, by omega, by simp, by simp⟩
  case round =>
    obtain ⟨j, hj, rfl, rfl⟩ := hrel
    have hle : B / 2 ^ j ≤ B := Nat.div_le_self _ _
    have hst : B / 2 ^ (j + 1) = B / 2 ^ j / 2 := by rw [Nat.pow_succ, Nat.div_div_eq_div_mul]
    have HV := Lib.hid hv
    have HS := Lib.hid hst
    clear hv hst
    by_cases c : at_ % 8 + j < 7
    · obtain ⟨V, hV⟩ : ∃ V : Nat, B / 2 ^ j = V := ⟨_, rfl⟩
      rw [hV] at hle HS ⊢
      have HV2 := Lib.hid hV
      clear hV
      obtain ⟨I, hI⟩ : ∃ I : Nat, at_ % 8 + j = I := ⟨_, rfl⟩
      rw [hI]
      have c2 : (I : Int) < 7 := by omega
      go_wp2
      go_round
      case rel =>
        refine ⟨j + 1, by omega, ?_, ?_⟩
        · rw [HS.out]; simp
        · rw [← Nat.add_assoc, hI]; simp
      case measure => simp [intOf]; omega
    · have e : j = 7 - at_ % 8 := by omega
      have hv2 : B / 2 ^ j % 2 = b := by rw [e]; exact HV.out
      obtain ⟨V, hV⟩ : ∃ V : Nat, B / 2 ^ j = V := ⟨_, rfl⟩
      rw [hV] at hle hv2 ⊢
      clear hV HV HS
      obtain ⟨I, hI⟩ : ∃ I : Nat, at_ % 8 + j = I := ⟨_, rfl⟩
      rw [hI]
      have c2 : ¬ (I : Int) < 7 := by omega
      go_wp2
      go_ret
      refine ⟨?_, rfl⟩
      have : (V : Int) % 2 = (b : Int) := by omega
      first | (rw [this]; rfl) | (simp; omega)

theorem rtwice_c (x : BitVec 128) (b : Nat) {ah al rh rl : Int} (hb : b ≤ 1) (hx : IsW ah al x) (hr : IsW rh rl (BitVec.ofNat 128 (2 * x.toNat + b))) (w : World) :
    Calls Try.prog 50 #[.agg #[.int .u64 ah, .int .u64 al], .int .u64 (b : Int)] w fun e w' => e = .returned (.agg #[.int .u64 rh, .int .u64 rl]) ∧ Grown w w' := by
  have hs := twice_step (v := (b : Int)) hx (by omega) (by omega)
  rw [Int.toNat_natCast] at hs
  have l0 := hx.l0; have l1 := hx.l1; have h0 := hx.h0; have h1 := hx.h1
  obtain rfl : (ah * 2 % 18446744073709551616 + al / 9223372036854775808) % 18446744073709551616 = rh := hs.h.trans hr.h.symm
  obtain rfl : (al * 2 % 18446744073709551616 + (b : Int)) % 18446744073709551616 = rl := hs.l.trans hr.l.symm
  clear hs hr hx
  go_enter Try.func50, Try.ntmps50
  go_wp2
  simp [bodyPost, results, Try.results50, go_sem]
  refine ⟨?_, ?_⟩
  · first
      | (simp only [IntKind.wrap_u64]; done)
      | (simp only [IntKind.wrap_u64]; omega)
      | (simp only [IntKind.wrap_u64]; constructor <;> omega)
  · exact ((Grown.refl _).alloc _ _).alloc _ _

theorem of_lo {h l : Int} {x : BitVec 128} (k : IsW h l x) (i : Nat) (hi : i < 64) : l.toNat / 2 ^ i % 2 = x.toNat / 2 ^ i % 2 := by
  have v := k.val; have l0 := k.l0; have h0 := k.h0
  obtain ⟨L, rfl⟩ := Int.eq_ofNat_of_zero_le l0
  obtain ⟨H, rfl⟩ := Int.eq_ofNat_of_zero_le h0
  have e : x.toNat = L + 2 ^ i * (2 * (2 ^ (63 - i) * H)) := by
    have p : 2 ^ i * (2 * (2 ^ (63 - i) * H)) = 18446744073709551616 * H := by
      have : 2 ^ i * (2 * 2 ^ (63 - i)) = 18446744073709551616 := by
        rw [← Nat.pow_succ', ← Nat.pow_add, show i + (63 - i + 1) = 64 by omega]
      rw [← this]; simp only [Nat.mul_assoc]
    rw [p]; omega
  rw [e, Nat.add_mul_div_left _ _ (Nat.two_pow_pos i), Int.toNat_natCast]
  omega
theorem of_hi {h l : Int} {x : BitVec 128} (k : IsW h l x) (i : Nat) : h.toNat / 2 ^ i % 2 = x.toNat / 2 ^ (64 + i) % 2 := by
  have v := k.val; have l0 := k.l0; have l1 := k.l1; have h0 := k.h0
  have e : h.toNat = x.toNat / 2 ^ 64 := by omega
  rw [e, Nat.pow_add, Nat.div_div_eq_div_mul]

set_option maxHeartbeats 1000000 in
theorem rof_c (x : BitVec 128) (at_ : Nat) {ah al : Int} {b : Nat} (hx : IsW ah al x) (h : at_ < 128) (hb : x.toNat / 2 ^ at_ % 2 = b) (w : World) :
    Calls Try.prog 52 #[.agg #[.int .u64 ah, .int .u64 al], .int .i64 (at_ : Int)] w fun e w' => e = .returned (.int .u64 (b : Int)) ∧ Grown w w' := by
  have l0 := hx.l0; have l1 := hx.l1; have h0 := hx.h0; have h1 := hx.h1
  have G : Hid (Grown w (w.alloc (.cells #[.int .u64 ah, .int .u64 al] 32))) := (Grown.refl _).alloc _ _
  rcases Nat.lt_or_ge at_ 64 with c | c
  all_goals
    first
      | (have hv := of_lo hx at_ c; rw [hb] at hv; obtain ⟨L, rfl⟩ := Int.eq_ofNat_of_zero_le l0; rw [Int.toNat_natCast] at hv; obtain ⟨m, hm⟩ : ∃ m : Nat, at_ = m := ⟨_, rfl⟩)
      | (obtain ⟨m, rfl⟩ : ∃ m : Nat, at_ = 64 + m := ⟨at_ - 64, by omega⟩; have hv := of_hi hx m; rw [hb] at hv; obtain ⟨L, rfl⟩ := Int.eq_ofNat_of_zero_le h0; rw [Int.toNat_natCast] at hv)
  · have c2 : ¬ (64 : Int) ≤ (at_ : Int) := by omega
    clear hx hb hm m
    have HV := Lib.hid hv
    clear hv
    go_enter Try.func52, Try.ntmps52
    go_wp2
    go_loop [5, 6] (fun n i => ∃ j : Nat, j ≤ at_ ∧ n = .int .u64 ((L / 2 ^ j : Nat) : Int) ∧ i = .int .i64 (j : Int)) (fun _ i => at_ - (intOf i).toNat)
    case atStart => exact ⟨0, by omega, by simp, by simp⟩
    case round =>
      obtain ⟨j, hj, rfl, rfl⟩ := hrel
      have hle : L / 2 ^ j ≤ L := Nat.div_le_self _ _
      have hst : L / 2 ^ (j + 1) = L / 2 ^ j / 2 := by rw [Nat.pow_succ, Nat.div_div_eq_div_mul]
      have HS := Lib.hid hst
      clear hst
      by_cases c3 : j < at_
      · obtain ⟨V, hV⟩ : ∃ V : Nat, L / 2 ^ j = V := ⟨_, rfl⟩
        rw [hV] at hle HS ⊢
        clear hV
        have c4 : (j : Int) < (at_ : Int) := by omega
        go_wp2
        go_round
        case rel => exact ⟨j + 1, by omega, by rw [HS.out]; simp, by simp⟩
        case measure => simp [intOf]; omega
      · obtain rfl : j = at_ := by omega
        have hv2 := HV.out
        obtain ⟨V, hV⟩ : ∃ V : Nat, L / 2 ^ j = V := ⟨_, rfl⟩
        rw [hV] at hle hv2 ⊢
        clear hV HV HS
        go_wp2
        go_ret
        refine ⟨?_, G.out⟩
        have : (V : Int) % 2 = (b : Int) := by omega
        first | (rw [this]; rfl) | (simp; omega)
  · have c2 : (64 : Int) ≤ ((64 + m : Nat) : Int) := by omega
    have c5 : ((64 + m : Nat) : Int) - 64 = (m : Int) := by omega
    clear hx hb
    have HV := Lib.hid hv
    clear hv
    generalize hA : 64 + m = A at *
    go_enter Try.func52, Try.ntmps52
    go_wp2
    try simp only [c5]
    go_loop [5, 6] (fun n i => ∃ j : Nat, j ≤ m ∧ n = .int .u64 ((L / 2 ^ j : Nat) : Int) ∧ i = .int .i64 (j : Int)) (fun _ i => m - (intOf i).toNat)
    case atStart => exact ⟨0, by omega, by simp, by simp⟩
    case round =>
      obtain ⟨j, hj, rfl, rfl⟩ := hrel
      have hle : L / 2 ^ j ≤ L := Nat.div_le_self _ _
      have hst : L / 2 ^ (j + 1) = L / 2 ^ j / 2 := by rw [Nat.pow_succ, Nat.div_div_eq_div_mul]
      have HS := Lib.hid hst
      clear hst
      by_cases c3 : j < m
      · obtain ⟨V, hV⟩ : ∃ V : Nat, L / 2 ^ j = V := ⟨_, rfl⟩
        rw [hV] at hle HS ⊢
        clear hV
        have c4 : (j : Int) < (m : Int) := by omega
        go_wp2
        go_round
        case rel => exact ⟨j + 1, by omega, by rw [HS.out]; simp, by simp⟩
        case measure => simp [intOf]; omega
      · obtain rfl : j = m := by omega
        have hv2 := HV.out
        obtain ⟨V, hV⟩ : ∃ V : Nat, L / 2 ^ j = V := ⟨_, rfl⟩
        rw [hV] at hle hv2 ⊢
        clear hV HV HS
        go_wp2
        go_ret
        refine ⟨?_, G.out⟩
        have : (V : Int) % 2 = (b : Int) := by omega
        first | (rw [this]; rfl) | (simp; omega)

end Go.Proofs.Ytlgllgdaodfocaa
