/- What the document's answers of layer 4 do. -/
import Derived.Test.YtkffoamdlgfcgaaStrs
import Derived.Test.YtkffoamdlgfcgaaHMath
import Derived.Test.YtkffoamdlgfcgaaOpen
import Derived.WalkLawsBesides
import Derived.BigQuiet
import Derived.BigRegion
import Derived.LoopTactic
import Derived.Deep.LoopGhost
import Derived.Deep.DeepCutAuto
import Derived.IntWalk
import Derived.Laws.BytesArg
import Derived.Laws.Bits64b
namespace Go.Proofs.Ytkffoamdlgfcgaa
set_option linter.unusedVariables false
open Go.RowKit

theorem xor_u32 (a b : Nat) (ha : a < 4294967296) (hb : b < 4294967296) : bits .xor .u32 (a : Int) (b : Int) = ((a ^^^ b : Nat) : Int) := by
  have hx : a ^^^ b < 2 ^ 32 := Nat.xor_lt_two_pow (by omega) (by omega)
  have h1 : (BitVec.ofInt 32 (a : Int)).toNat = a := by
    rw [BitVec.ofInt_natCast, BitVec.toNat_ofNat]; exact Nat.mod_eq_of_lt (by omega)
  have h2 : (BitVec.ofInt 32 (b : Int)).toNat = b := by
    rw [BitVec.ofInt_natCast, BitVec.toNat_ofNat]; exact Nat.mod_eq_of_lt (by omega)
  show IntKind.u32.wrap ((BitVec.ofInt 32 (a : Int) ^^^ BitVec.ofInt 32 (b : Int)).toNat : Int) = _
  rw [BitVec.toNat_xor, h1, h2, IntKind.wrap_u32]
  omega
theorem lt32 (x : BitVec 32) : x.toNat < 4294967296 := x.isLt
theorem xor_b (x y : BitVec 32) : bits .xor .u32 (x.toNat : Int) (y.toNat : Int) = ((x ^^^ y).toNat : Int) := by
  rw [xor_u32 _ _ (lt32 x) (lt32 y), BitVec.toNat_xor]
theorem mul_b (x y : BitVec 32) : IntKind.u32.wrap ((x.toNat : Int) * (y.toNat : Int)) = ((x * y).toNat : Int) := by
  rw [IntKind.wrap_u32, BitVec.toNat_mul, ← Int.natCast_mul]; omega
theorem shr_b (x : BitVec 32) (k : Nat) : ((x >>> k).toNat : Int) = (x.toNat : Int) / ((2 ^ k : Nat) : Int) := by
  rw [BitVec.toNat_ushiftRight, Nat.shiftRight_eq_div_pow, Int.natCast_ediv]

theorem hbtake (s : ByteArray) (k : Nat) (h : k < s.size) : s.data.toList.take (k + 1) = s.data.toList.take k ++ [s[k]] := by
  rw [List.take_succ_eq_append_getElem (by simpa using h)]; rfl
theorem step_b (x : BitVec 32) (c : UInt8) {b : Nat} (hb : (x ^^^ BitVec.ofNat 32 c.toNat).toNat = b) : bits .xor .u32 (x.toNat : Int) (c.toNat : Int) = (b : Int) ∧ IntKind.u32.wrap ((b : Int) * 16777619) = ((stepH x c).toNat : Int) := by
  have hc := c.toNat_lt
  have e : ((c.toNat : Nat) : Int) = ((BitVec.ofNat 32 c.toNat).toNat : Int) := by
    rw [BitVec.toNat_ofNat]; omega
  constructor
  · rw [e, xor_b, hb]
  · have m := mul_b (x ^^^ BitVec.ofNat 32 c.toNat) 16777619#32
    rw [hb] at m
    exact m

set_option maxHeartbeats 1000000 in
theorem rmore_c (x : BitVec 32) (s : ByteArray) {a r : Nat} (hs : s.size < 1152921504606846976) (ha : x.toNat = a) (hr : (moreH x s.data.toList).toNat = r) (w : World) :
    Calls Try.prog 19 #[.int .u32 (a : Int), .string s] w fun e w' => e = .returned (.int .u32 (r : Int)) ∧ w' = w := by
  have HR := Lib.hid hr
  have HA := Lib.hid ha
  clear hr ha
  go_enter Try.func19, Try.ntmps19
  go_wp2
  go_loop [0, 5] (fun h i => ∃ k : Nat, k ≤ s.size ∧ i = .int .i64 (k : Int) ∧ ∃ V : Nat, h = .int .u32 (V : Int) ∧ (moreH x (s.data.toList.take k)).toNat = V) (fun _ i => s.size - (intOf i).toNat)
  case atStart => exact ⟨0, by omega, by simp, a, rfl, HA.out⟩
  case round =>
    obtain ⟨k, hk, rfl, V, rfl, hV⟩ := hrel
    have HV := Lib.hid hV
    clear hV
    by_cases d : k < s.size
    · have i0 : (0 : Int) ≤ (k : Int) := by omega
      have i1 : (k : Int) < (s.size : Int) := by omega
      obtain ⟨b, hb⟩ : ∃ b, (moreH x (s.data.toList.take k) ^^^ BitVec.ofNat 32 s[k].toNat).toNat = b := ⟨_, rfl⟩
      obtain ⟨g1, g2⟩ := step_b _ _ hb
      rw [HV.out] at g1
      obtain ⟨R, hR⟩ : ∃ R, (stepH (moreH x (s.data.toList.take k)) s[k]).toNat = R := ⟨_, rfl⟩
      rw [hR] at g2
      have hn : (moreH x (s.data.toList.take (k + 1))).toNat = R := by rw [hbtake s k d, moreH_snoc, hR]
      have g3 : (b : Int) * 16777619 % 4294967296 = (R : Int) := by rw [← IntKind.wrap_u32]; exact g2
      have lV : V < 4294967296 := by rw [← HV.out]; exact lt32 _
      have lb : b < 4294967296 := by rw [← hb]; exact lt32 _
      have lc : s[k].toNat < 256 := UInt8.toNat_lt _
      have HN := Lib.hid hn
      clear hn hb hR
      go_wp2
      go_round
      case rel => exact ⟨k + 1, by omega, by go_num, R, rfl, HN.out⟩
      case measure => simp [intOf]; omega
    · have e := HV.out
      rw [List.take_of_length_le (by simp; omega), HR.out] at e
      obtain rfl : r = V := e
      have i1 : ¬ (k : Int) < (s.size : Int) := by omega
      go_wp2
      go_ret
      exact ⟨rfl, rfl⟩

theorem fold_b (x : BitVec 32) {a b : Nat} (k : Nat) (ha : x.toNat = a) (hb : (x ^^^ (x >>> k)).toNat = b) : bits .xor .u32 (a : Int) ((a : Int) / ((2 ^ k : Nat) : Int)) = (b : Int) := by
  rw [← ha, ← shr_b, xor_b, hb]

theorem rmix_c (x : BitVec 32) {a r : Nat} (ha : x.toNat = a) (hr : (mixH x).toNat = r) (w : World) :
    Calls Try.prog 15 #[.int .u32 (a : Int)] w fun e w' => e = .returned (.int .u32 (r : Int)) ∧ w' = w := by
  have la : a < 4294967296 := by rw [← ha]; exact lt32 x
  obtain ⟨b, hb⟩ : ∃ b, (fold16 x).toNat = b := ⟨_, rfl⟩
  obtain ⟨c, hc⟩ : ∃ c, (fold16 x * 0x85EBCA6B#32).toNat = c := ⟨_, rfl⟩
  obtain ⟨d, hd⟩ : ∃ d, (fold13 (fold16 x * 0x85EBCA6B#32)).toNat = d := ⟨_, rfl⟩
  obtain ⟨e, he⟩ : ∃ e, (fold13 (fold16 x * 0x85EBCA6B#32) * 0xC2B2AE35#32).toNat = e := ⟨_, rfl⟩
  have f1 : bits .xor .u32 (a : Int) ((a : Int) / 65536) = (b : Int) := fold_b x 16 ha hb
  have m1 := mul_b (fold16 x) 0x85EBCA6B#32
  rw [hb, hc] at m1
  have f2 : bits .xor .u32 (c : Int) ((c : Int) / 8192) = (d : Int) := fold_b _ 13 hc hd
  have m2 := mul_b (fold13 (fold16 x * 0x85EBCA6B#32)) 0xC2B2AE35#32
  rw [hd, he] at m2
  have f3 : bits .xor .u32 (e : Int) ((e : Int) / 65536) = (r : Int) := fold_b _ 16 he hr
  have n1 : IntKind.u32.wrap ((b : Int) * 2246822507) = (c : Int) := m1
  have n2 : IntKind.u32.wrap ((d : Int) * 3266489909) = (e : Int) := m2
  have n3 : (b : Int) * 2246822507 % 4294967296 = (c : Int) := by rw [← IntKind.wrap_u32]; exact n1
  have n4 : (d : Int) * 3266489909 % 4294967296 = (e : Int) := by rw [← IntKind.wrap_u32]; exact n2
  have lb : b < 4294967296 := by rw [← hb]; exact lt32 _
  have lc : c < 4294967296 := by rw [← hc]; exact lt32 _
  have ld : d < 4294967296 := by rw [← hd]; exact lt32 _
  have le : e < 4294967296 := by rw [← he]; exact lt32 _
  clear ha hr hb hc hd he m1 m2
  go_enter Try.func15, Try.ntmps15
  go_wp2
  go_ret
  exact ⟨rfl, rfl⟩

theorem rslot_c (h : Nat) (n : Int) {r : Nat} (hh : h < 4294967296) (n0 : -9223372036854775808 ≤ n) (n1 : n ≤ 9223372036854775807) (hr : (if n < 1 then 0 else slotN h n.toNat) = r) (w : World) :
    Calls Try.prog 21 #[.int .u32 (h : Int), .int .i64 n] w fun e w' => e = .returned (.int .i64 (r : Int)) ∧ w' = w := by
  by_cases c : n < 1
  · rw [if_pos c] at hr
    subst hr
    go_enter Try.func21, Try.ntmps21
    go_wp2
    go_ret
    exact ⟨rfl, rfl⟩
  · rw [if_neg c] at hr
    have hq0 : ∃ q : Nat, h * min n.toNat 2147483647 = q := ⟨_, rfl⟩
    obtain ⟨q, hq⟩ := hq0
    have lp : q < 18446744073709551616 := by
      have := Nat.mul_le_mul (Nat.le_of_lt hh) (show min n.toNat 2147483647 ≤ 2147483647 by omega); omega
    have hr2 : (q : Int) / 4294967296 = (r : Int) := by rw [← hr]; unfold slotN; rw [hq]; rfl
    have HR := Lib.hid hr2
    by_cases d : n ≤ 2147483647
    · have e : min n.toNat 2147483647 = n.toNat := by omega
      rw [e] at hq
      have hq1 : (h : Int) * n = (q : Int) := by rw [← hq, Int.natCast_mul]; congr 1; omega
      have c1 : 1 ≤ n := by omega
      clear hr hq hr2 e c
      go_enter Try.func21, Try.ntmps21
      go_wp2
      go_ret
      exact ⟨by rw [← HR.out]; rfl, rfl⟩
    · have e : min n.toNat 2147483647 = 2147483647 := by omega
      rw [e] at hq
      have hq1 : (h : Int) * 2147483647 = (q : Int) := by omega
      have c1 : 2147483647 < n := by omega
      clear hr hq hr2 e c d
      go_enter Try.func21, Try.ntmps21
      go_wp2
      go_ret
      exact ⟨by rw [← HR.out]; rfl, rfl⟩

end Go.Proofs.Ytkffoamdlgfcgaa
