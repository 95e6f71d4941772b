/- What the document's answers May, Bit, Twice, Of, Bytes and Get of layer 2 do. -/
import Derived.Test.YtjnccpbedffijaaFAny
namespace Go.Proofs.Ytjnccpbedffijaa
set_option linter.unusedVariables false
open Go.RowKit

set_option maxHeartbeats 1000000 in
theorem bit_c (s : ByteArray) (at_ : Nat) {b : Nat} (hs : s.size < 1152921504606846976) (h : at_ < 8 * s.size) (hb : bitS s at_ = b) (w : World) :
    Calls Try.prog 31 #[.string s, .int .i64 (at_ : Int)] w fun e w' => e = .returned (.int .u64 (b : Int)) ∧ w' = w := by
  have f1 : IntKind.i64.wrap ((at_ : Int).tdiv 8) = ((at_ / 8 : Nat) : Int) := by rw [Int.tdiv_eq_ediv_of_nonneg (by omega), IntWalk.i64_in _ (by omega)]; omega
  have i0 : (0 : Int) ≤ (at_ : Int) / 8 := by omega
  have i1 : (at_ : Int) / 8 < (s.size : Int) := by omega
  have hj : at_ / 8 < s.size := by omega
  have hv : byteS s (at_ / 8) / 2 ^ (7 - at_ % 8) % 2 = b := hb
  rw [byteS_at s _ hj] at hv
  have l : s[at_ / 8].toNat < 256 := UInt8.toNat_lt _
  go_enter Try.func31, Try.ntmps31
  go_wp2
  generalize s[at_ / 8].toNat = B at *
  go_loop [5, 6] (fun n i => ∃ j : Nat, j ≤ 7 - at_ % 8 ∧ n = .int .i64 ((B / 2 ^ j : Nat) : Int) ∧ i = .int .i64 ((at_ % 8 + j : Nat) : Int)) (fun _ i => 7 - (intOf i).toNat)
  case atStart => exact ⟨0, by omega, by simp, by simp⟩
  case round =>
    obtain ⟨j, hj, rfl, rfl⟩ := hrel
    have hle : B / 2 ^ j ≤ B := Nat.div_le_self _ _
    have hst : B / 2 ^ (j + 1) = B / 2 ^ j / 2 := by rw [Nat.pow_succ, Nat.div_div_eq_div_mul]
    have HV := Lib.hid hv
    have HS := Lib.hid hst
    clear hv hst
    by_cases c : at_ % 8 + j < 7
    · obtain ⟨V, hV⟩ : ∃ V : Nat, B / 2 ^ j = V := ⟨_, rfl⟩
      rw [hV] at hle HS ⊢
      have HV2 := Lib.hid hV
      clear hV
      obtain ⟨I, hI⟩ : ∃ I : Nat, at_ % 8 + j = I := ⟨_, rfl⟩
      rw [hI]
      have c2 : (I : Int) < 7 := by omega
      go_wp2
      go_round
      case rel =>
        refine ⟨j + 1, by omega, ?_, ?_⟩
        · rw [HS.out]; simp
        · rw [← Nat.add_assoc, hI]; simp
      case measure => simp [intOf]; omega
    · have e : j = 7 - at_ % 8 := by omega
      have hv2 : B / 2 ^ j % 2 = b := by rw [e]; exact HV.out
      obtain ⟨V, hV⟩ : ∃ V : Nat, B / 2 ^ j = V := ⟨_, rfl⟩
      rw [hV] at hle hv2 ⊢
      clear hV HV HS
      obtain ⟨I, hI⟩ : ∃ I : Nat, at_ % 8 + j = I := ⟨_, rfl⟩
      rw [hI]
      have c2 : ¬ (I : Int) < 7 := by omega
      go_wp2
      go_ret
      refine ⟨?_, rfl⟩
      have : (V : Int) % 2 = (b : Int) := by omega
      first | (rw [this]; rfl) | (simp; omega)

theorem of_lo {h l : Int} {x : BitVec 128} (k : IsW h l x) (i : Nat) (hi : i < 64) : l.toNat / 2 ^ i % 2 = x.toNat / 2 ^ i % 2 := by
  have v := k.val; have l0 := k.l0; have h0 := k.h0
  obtain ⟨L, rfl⟩ := Int.eq_ofNat_of_zero_le l0
  obtain ⟨H, rfl⟩ := Int.eq_ofNat_of_zero_le h0
  have e : x.toNat = L + 2 ^ i * (2 * (2 ^ (63 - i) * H)) := by
    have p : 2 ^ i * (2 * (2 ^ (63 - i) * H)) = 18446744073709551616 * H := by
      have : 2 ^ i * (2 * 2 ^ (63 - i)) = 18446744073709551616 := by
        rw [← Nat.pow_succ', ← Nat.pow_add, show i + (63 - i + 1) = 64 by omega]
      rw [← this]; simp only [Nat.mul_assoc]
    rw [p]; omega
  rw [e, Nat.add_mul_div_left _ _ (Nat.two_pow_pos i), Int.toNat_natCast]
  omega
theorem of_hi {h l : Int} {x : BitVec 128} (k : IsW h l x) (i : Nat) : h.toNat / 2 ^ i % 2 = x.toNat / 2 ^ (64 + i) % 2 := by
  have v := k.val; have l0 := k.l0; have l1 := k.l1; have h0 := k.h0
  have e : h.toNat = x.toNat / 2 ^ 64 := by omega
  rw [e, Nat.pow_add, Nat.div_div_eq_div_mul]

end Go.Proofs.Ytjnccpbedffijaa
