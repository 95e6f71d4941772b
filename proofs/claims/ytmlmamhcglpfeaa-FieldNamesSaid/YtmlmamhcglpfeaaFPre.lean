/- What the call Prefix of package field does: a contract, by a walk. -/
import Derived.Test.YtmlmamhcglpfeaaFMore
namespace Go.Proofs.Ytmlmamhcglpfeaa
set_option linter.unusedVariables false
open Go.RowKit

theorem xor_u8 (a b : Nat) (ha : a < 256) (hb : b < 256) : bits .xor .u8 (a : Int) (b : Int) = ((a ^^^ b : Nat) : Int) := by
  have hx : a ^^^ b < 2 ^ 8 := Nat.xor_lt_two_pow (by omega) (by omega)
  have h1 : (BitVec.ofInt 8 (a : Int)).toNat = a := by
    rw [BitVec.ofInt_natCast, BitVec.toNat_ofNat]; exact Nat.mod_eq_of_lt (by omega)
  have h2 : (BitVec.ofInt 8 (b : Int)).toNat = b := by
    rw [BitVec.ofInt_natCast, BitVec.toNat_ofNat]; exact Nat.mod_eq_of_lt (by omega)
  show IntKind.u8.wrap ((BitVec.ofInt 8 (a : Int) ^^^ BitVec.ofInt 8 (b : Int)).toNat : Int) = _
  rw [BitVec.toNat_xor, h1, h2, IntKind.wrap_u8]
  omega

set_option maxHeartbeats 2000000 in
theorem prefix_c (s t : ByteArray) {r : Nat} (hs : s.size < 1152921504606846976) (ht : t.size < 1152921504606846976) (hr : IsPre s t r) (w : World) :
    Calls Try.prog 37 #[.string s, .string t] w fun e w' => e = .returned (.int .i64 (r : Int)) ∧ Grown w w' := by
  go_enter Try.func37, Try.ntmps37
  go_wp2
  go_loopw [13] (fun i wr => ∃ k : Nat, k ≤ min s.size t.size ∧ i = .int .i64 k ∧ Grown w wr ∧ ∀ j, j < k → byteS s j = byteS t j) (fun i _ => min s.size t.size - (intOf i).toNat)
  case atStart => exact ⟨0, by omega, rfl, Grown.refl _, fun j hj => by omega⟩
  case round =>
    obtain ⟨k, hk, rfl, hG, hz⟩ := hrel
    have HZ : Hid (∀ j, j < k → byteS s j = byteS t j) := hz
    clear hz
    by_cases hlt : k < min s.size t.size
    · have k1 : k < s.size := by omega
      have k2 : k < t.size := by omega
      have i0 : (0 : Int) ≤ (k : Int) := by omega
      have i1 : (k : Int) < (s.size : Int) := by omega
      have i2 : (k : Int) < (t.size : Int) := by omega
      have i3 : (k : Int) < min (s.size : Int) (t.size : Int) := by omega
      go_wp2
      go_quiet (fail)
      replace hG := hG.trans3 (gdrewN wr nq)
      generalize wr.drewN nq = V at *
      by_cases e : s[k].toNat = t[k].toNat
      · have e1 : ((s[k].toNat : Int) != (t[k].toNat : Int)) = false := by simp [e]
        go_wp2
        go_roundw
        case rel =>
          refine ⟨k + 1, by omega, by go_num, hG, fun j hj => ?_⟩
          by_cases q : j = k
          · subst q; rw [byteS_at s j k1, byteS_at t j k2, e]
          · exact HZ.out j (by omega)
        case measure => simp [intOf]; omega
      · have e1 : ((s[k].toNat : Int) != (t[k].toNat : Int)) = true := by simp; omega
        have la : s[k].toNat < 256 := UInt8.toNat_lt _
        have lb : t[k].toNat < 256 := UInt8.toNat_lt _
        obtain ⟨hp, hL⟩ := isPre_at k1 k2 HZ.out (by rw [byteS_at s k k1, byteS_at t k k2]; exact e)
        rw [byteS_at s k k1, byteS_at t k k2] at hp hL
        have hr2 := hp.uniq hr
        have hx := xor_u8 _ _ la lb
        have hxl : s[k].toNat ^^^ t[k].toNat < 256 := Nat.xor_lt_two_pow (n := 8) la lb
        clear hp hr
        generalize s[k].toNat ^^^ t[k].toNat = X at *
        have pl := Try.bits_LeadingZeros8 (X : Int)
        rw [Int.toNat_natCast] at pl
        generalize Lib.bitLen X = B at *
        have f0 : IntKind.i64.wrap (8 * (k : Int)) = 8 * (k : Int) := IntWalk.i64_in _ (by omega)
        have f1 : IntKind.i64.wrap (8 * (k : Int) + (8 - (B : Int))) = (r : Int) := by rw [IntWalk.i64_in _ (by omega)]; omega
        go_wp2
        go_quiet ((go_at_call 54; exact Calls.quiet_of_same (pl _ (by omega) (by omega))))
        go_wp2
        go_ret
        exact ⟨rfl, hG.trans3 (gdrewN _ _)⟩
    · obtain rfl : k = min s.size t.size := by omega
      have hr2 := (isPre_all HZ.out).uniq hr
      go_wp2
      go_ret
      subst hr2
      exact ⟨by simp; omega, hG⟩

end Go.Proofs.Ytmlmamhcglpfeaa
