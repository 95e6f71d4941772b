/- Plain facts on numbers of 128 bits, cut into two halves of 64 bits. No program is in sight. -/
import Derived.Laws.Bits64b
import Derived.Laws.Shifts
namespace Go.Proofs.Ytjnccpbedffijaa
set_option linter.unusedVariables false

/-- The upper half, and the lower one. -/
def hi (x : BitVec 128) : Int := ((x.toNat / 18446744073709551616 : Nat) : Int)
def lo (x : BitVec 128) : Int := ((x.toNat % 18446744073709551616 : Nat) : Int)

/-- Two numbers are the halves of a word. -/
structure IsW (h l : Int) (x : BitVec 128) : Prop where
  h : h = hi x
  l : l = lo x

theorem lt128 (x : BitVec 128) : x.toNat < 340282366920938463463374607431768211456 := x.isLt
theorem hi_0 (x : BitVec 128) : 0 ≤ hi x := by unfold hi; omega
theorem lo_0 (x : BitVec 128) : 0 ≤ lo x := by unfold lo; omega
theorem hi_1 (x : BitVec 128) : hi x < 18446744073709551616 := by have := lt128 x; unfold hi; omega
theorem lo_1 (x : BitVec 128) : lo x < 18446744073709551616 := by unfold lo; omega
theorem hilo (x : BitVec 128) : (x.toNat : Int) = hi x * 18446744073709551616 + lo x := by unfold hi lo; omega
theorem isW_self (x : BitVec 128) : IsW (hi x) (lo x) x := ⟨rfl, rfl⟩
theorem isW_ex (x : BitVec 128) : ∃ h l : Int, IsW h l x := ⟨_, _, isW_self x⟩
theorem isW_eq {x y : BitVec 128} (h : x = y) : IsW (hi x) (lo x) y := by subst h; exact ⟨rfl, rfl⟩
theorem isW_of {h l : Int} {x : BitVec 128} (h0 : 0 ≤ l) (h1 : l < 18446744073709551616) (e : (x.toNat : Int) = h * 18446744073709551616 + l) : IsW h l x := by
  have := hilo x; have := lo_0 x; have := lo_1 x
  constructor <;> omega
theorem IsW.val {h l : Int} {x : BitVec 128} (k : IsW h l x) : (x.toNat : Int) = h * 18446744073709551616 + l := by rw [k.h, k.l]; exact hilo x
theorem IsW.h0 {h l : Int} {x : BitVec 128} (k : IsW h l x) : 0 ≤ h := by rw [k.h]; exact hi_0 x
theorem IsW.h1 {h l : Int} {x : BitVec 128} (k : IsW h l x) : h < 18446744073709551616 := by rw [k.h]; exact hi_1 x
theorem IsW.l0 {h l : Int} {x : BitVec 128} (k : IsW h l x) : 0 ≤ l := by rw [k.l]; exact lo_0 x
theorem IsW.l1 {h l : Int} {x : BitVec 128} (k : IsW h l x) : l < 18446744073709551616 := by rw [k.l]; exact lo_1 x
theorem IsW.inj {h l h' l' : Int} {x y : BitVec 128} (k : IsW h l x) (k' : IsW h' l' y) (e1 : h = h') (e2 : l = l') : x = y := by
  apply BitVec.eq_of_toNat_eq; have := k.val; have := k'.val; subst e1 e2; omega
/-- A word that is read as two halves. -/
theorem isW_make {h l : Int} (h0 : 0 ≤ h) (h1 : h < 18446744073709551616) (l0 : 0 ≤ l) (l1 : l < 18446744073709551616) : ∃ x : BitVec 128, h = hi x ∧ l = lo x := by
  refine ⟨BitVec.ofNat 128 (h * 18446744073709551616 + l).toNat, ?_⟩
  have e : (BitVec.ofNat 128 (h * 18446744073709551616 + l).toNat).toNat = (h * 18446744073709551616 + l).toNat := by
    rw [BitVec.toNat_ofNat]; apply Nat.mod_eq_of_lt; omega
  have := isW_of (h := h) (l := l) (x := BitVec.ofNat 128 (h * 18446744073709551616 + l).toNat) l0 l1 (by rw [e]; omega)
  exact ⟨this.h, this.l⟩

/-! ### What each call does to the halves -/
theorem add_halves {ah al bh bl : Int} {x y : BitVec 128} (hx : IsW ah al x) (hy : IsW bh bl y) :
    IsW ((ah + bh + (al + bl) / 18446744073709551616) % 18446744073709551616) ((al + bl) % 18446744073709551616) (x + y) := by
  have := hx.val; have := hy.val; have := hx.l0; have := hx.l1; have := hy.l0; have := hy.l1; have := hx.h0; have := hx.h1; have := hy.h0; have := hy.h1
  refine isW_of (by omega) (by omega) ?_
  rw [BitVec.toNat_add]
  omega

/-- The borrow. -/
def bor (x y : Int) : Int := if x < y then 1 else 0

theorem sub_halves {ah al bh bl : Int} {x y : BitVec 128} (hx : IsW ah al x) (hy : IsW bh bl y) :
    IsW ((ah - bh - bor al bl) % 18446744073709551616) ((al - bl) % 18446744073709551616) (x - y) := by
  have := hx.val; have := hy.val; have := hx.l0; have := hx.l1; have := hy.l0; have := hy.l1; have := hx.h0; have := hx.h1; have := hy.h0; have := hy.h1
  refine isW_of (by omega) (by omega) ?_
  rw [BitVec.toNat_sub]
  unfold bor
  split <;> omega

theorem nat_and_halves (a b : Nat) : (a &&& b) / 18446744073709551616 = (a / 18446744073709551616) &&& (b / 18446744073709551616) ∧ (a &&& b) % 18446744073709551616 = (a % 18446744073709551616) &&& (b % 18446744073709551616) := by
  refine ⟨?_, ?_⟩
  · exact Nat.and_div_two_pow (n := 64)
  · exact Nat.and_mod_two_pow (n := 64)
theorem nat_or_halves (a b : Nat) : (a ||| b) / 18446744073709551616 = (a / 18446744073709551616) ||| (b / 18446744073709551616) ∧ (a ||| b) % 18446744073709551616 = (a % 18446744073709551616) ||| (b % 18446744073709551616) := by
  refine ⟨?_, ?_⟩
  · exact Nat.or_div_two_pow (n := 64)
  · exact Nat.or_mod_two_pow (n := 64)
theorem nat_xor_halves (a b : Nat) : (a ^^^ b) / 18446744073709551616 = (a / 18446744073709551616) ^^^ (b / 18446744073709551616) ∧ (a ^^^ b) % 18446744073709551616 = (a % 18446744073709551616) ^^^ (b % 18446744073709551616) := by
  refine ⟨?_, ?_⟩
  · exact Nat.xor_div_two_pow (n := 64)
  · exact Nat.xor_mod_two_pow (n := 64)

theorem and_halves {ah al bh bl : Int} {x y : BitVec 128} (hx : IsW ah al x) (hy : IsW bh bl y) :
    IsW (bits .and .u64 ah bh) (bits .and .u64 al bl) (x &&& y) := by
  have a := lt128 x; have b := lt128 y
  have n := nat_and_halves x.toNat y.toNat
  rw [hx.h, hx.l, hy.h, hy.l]; unfold hi lo
  rw [bits_and_u64_nat _ _ (by omega) (by omega), bits_and_u64_nat _ _ (by omega) (by omega), ← n.1, ← n.2, ← BitVec.toNat_and]
  exact ⟨rfl, rfl⟩
theorem or_halves {ah al bh bl : Int} {x y : BitVec 128} (hx : IsW ah al x) (hy : IsW bh bl y) :
    IsW (bits .or .u64 ah bh) (bits .or .u64 al bl) (x ||| y) := by
  have a := lt128 x; have b := lt128 y
  have n := nat_or_halves x.toNat y.toNat
  rw [hx.h, hx.l, hy.h, hy.l]; unfold hi lo
  rw [bits_or_u64_nat _ _ (by omega) (by omega), bits_or_u64_nat _ _ (by omega) (by omega), ← n.1, ← n.2, ← BitVec.toNat_or]
  exact ⟨rfl, rfl⟩
theorem xor_halves {ah al bh bl : Int} {x y : BitVec 128} (hx : IsW ah al x) (hy : IsW bh bl y) :
    IsW (bits .xor .u64 ah bh) (bits .xor .u64 al bl) (x ^^^ y) := by
  have a := lt128 x; have b := lt128 y
  have n := nat_xor_halves x.toNat y.toNat
  rw [hx.h, hx.l, hy.h, hy.l]; unfold hi lo
  rw [bits_xor_u64_nat _ _ (by omega) (by omega), bits_xor_u64_nat _ _ (by omega) (by omega), ← n.1, ← n.2, ← BitVec.toNat_xor]
  exact ⟨rfl, rfl⟩
theorem not_halves {ah al : Int} {x : BitVec 128} (hx : IsW ah al x) :
    IsW (bits .xor .u64 18446744073709551615 ah) (bits .xor .u64 18446744073709551615 al) (~~~ x) := by
  have h : IsW 18446744073709551615 18446744073709551615 (BitVec.allOnes 128) := ⟨by decide, by decide⟩
  have := xor_halves h hx
  rwa [BitVec.allOnes_xor] at this

/-! ### Shifts -/
theorem two_pows (k : Nat) (hk : k ≤ 64) : 2 ^ k * 2 ^ (64 - k) = 18446744073709551616 := by
  rw [← Nat.pow_add, show k + (64 - k) = 64 by omega]

theorem mul_mod_pq (H P Q : Nat) (h : P * Q = 18446744073709551616) (hQ : 0 < Q) (hP : 0 < P) :
    (H * P) % 18446744073709551616 = (H % Q) * P ∧ H * P = (H / Q) * 18446744073709551616 + (H % Q) * P ∧ (H % Q) * P + P ≤ 18446744073709551616 := by
  have e : H * P = (H / Q) * 18446744073709551616 + (H % Q) * P := by
    conv => lhs; rw [← Nat.div_add_mod H Q]
    rw [Nat.add_mul, ← h, Nat.mul_comm Q (H / Q), Nat.mul_assoc, Nat.mul_comm Q P]
  have l : (H % Q) * P + P ≤ 18446744073709551616 := by
    have : H % Q + 1 ≤ Q := Nat.mod_lt _ hQ
    calc (H % Q) * P + P = (H % Q + 1) * P := by rw [Nat.add_mul, Nat.one_mul]
      _ ≤ Q * P := Nat.mul_le_mul_right _ this
      _ = _ := by rw [Nat.mul_comm]; exact h
  refine ⟨?_, e, l⟩
  rw [e]
  omega

theorem or_add (a b k : Nat) (h : b < 2 ^ k) : a * 2 ^ k ||| b = a * 2 ^ k + b := by
  rw [← Nat.shiftLeft_eq, Nat.shiftLeft_add_eq_or_of_lt h]

theorem shl_nat (H L k : Nat) (hk : k ≤ 64) (hL : L < 18446744073709551616) :
    ((H * 18446744073709551616 + L) * 2 ^ k) % 340282366920938463463374607431768211456 =
      ((H * 2 ^ k) % 18446744073709551616 ||| L / 2 ^ (64 - k)) * 18446744073709551616 + (L * 2 ^ k) % 18446744073709551616 := by
  have pq := two_pows k hk
  have hP : 0 < 2 ^ k := Nat.two_pow_pos k
  have hQ : 0 < 2 ^ (64 - k) := Nat.two_pow_pos _
  obtain ⟨a1, a2, a3⟩ := mul_mod_pq H _ _ pq hQ hP
  obtain ⟨b1, b2, b3⟩ := mul_mod_pq L _ _ pq hQ hP
  have hlt : L / 2 ^ (64 - k) < 2 ^ k := by
    rw [Nat.div_lt_iff_lt_mul hQ, pq]; exact hL
  rw [a1, or_add _ _ _ hlt, b1]
  have e : (H * 18446744073709551616 + L) * 2 ^ k = H * 2 ^ k * 18446744073709551616 + L * 2 ^ k := by
    rw [Nat.add_mul, Nat.mul_right_comm]
  rw [e]
  generalize H % 2 ^ (64 - k) * 2 ^ k = r at *
  generalize L % 2 ^ (64 - k) * 2 ^ k = t at *
  generalize H * 2 ^ k = c at *
  generalize L * 2 ^ k = d at *
  generalize H / 2 ^ (64 - k) = u at *
  generalize L / 2 ^ (64 - k) = v at *
  generalize 2 ^ k = P at *
  clear e pq
  omega

theorem shr_nat (H L k : Nat) (hk : k ≤ 64) (hH : H < 18446744073709551616) (hL : L < 18446744073709551616) :
    (H * 18446744073709551616 + L) / 2 ^ k = (H / 2 ^ k) * 18446744073709551616 + (L / 2 ^ k ||| (H * 2 ^ (64 - k)) % 18446744073709551616) := by
  have pq := two_pows k hk
  have hP : 0 < 2 ^ k := Nat.two_pow_pos k
  have hQ : 0 < 2 ^ (64 - k) := Nat.two_pow_pos _
  have qp : 2 ^ (64 - k) * 2 ^ k = 18446744073709551616 := by rw [Nat.mul_comm]; exact pq
  obtain ⟨a1, a2, a3⟩ := mul_mod_pq H _ _ qp hP hQ
  have hlt : L / 2 ^ k < 2 ^ (64 - k) := by
    rw [Nat.div_lt_iff_lt_mul hP, qp]; exact hL
  rw [a1, Nat.or_comm, or_add _ _ _ hlt]
  have e : H * 18446744073709551616 + L = 2 ^ k * (H / 2 ^ k * 18446744073709551616 + H % 2 ^ k * 2 ^ (64 - k)) + L := by
    have m : H * 18446744073709551616 = 2 ^ k * (H * 2 ^ (64 - k)) := by
      rw [← pq, Nat.mul_comm H, Nat.mul_assoc, Nat.mul_comm (2 ^ (64 - k)) H]
    rw [m, a2]
  have f : (H * 18446744073709551616 + L) / 2 ^ k = (H / 2 ^ k * 18446744073709551616 + H % 2 ^ k * 2 ^ (64 - k)) + L / 2 ^ k := by
    rw [e]; exact Nat.mul_add_div hP _ _
  rw [f]
  clear e f
  generalize H % 2 ^ k * 2 ^ (64 - k) = r at *
  generalize H / 2 ^ k = u at *
  generalize L / 2 ^ k = v at *
  omega

theorem shl_halves {ah al : Int} {x : BitVec 128} (hx : IsW ah al x) (k : Nat) (hk : k ≤ 64) :
    IsW (bits .or .u64 (IntKind.u64.wrap (ah * 2 ^ k)) (al / 2 ^ (64 - k))) (IntKind.u64.wrap (al * 2 ^ k)) (x <<< k) := by
  have v := hx.val; have h0 := hx.h0; have h1 := hx.h1; have l0 := hx.l0; have l1 := hx.l1
  clear hx
  obtain ⟨H, rfl⟩ := Int.eq_ofNat_of_zero_le h0
  obtain ⟨L, rfl⟩ := Int.eq_ofNat_of_zero_le l0
  have c1 : ((H : Int) * 2 ^ k) = ((H * 2 ^ k : Nat) : Int) := by simp
  have c2 : ((L : Int) * 2 ^ k) = ((L * 2 ^ k : Nat) : Int) := by simp
  have c3 : ((L : Int) / 2 ^ (64 - k)) = ((L / 2 ^ (64 - k) : Nat) : Int) := by simp
  have hq : L / 2 ^ (64 - k) ≤ L := Nat.div_le_self _ _
  rw [c1, c2, c3, IntKind.wrap_u64, IntKind.wrap_u64]
  have d1 : ((H * 2 ^ k : Nat) : Int) % 18446744073709551616 = ((H * 2 ^ k % 18446744073709551616 : Nat) : Int) := by omega
  have d2 : ((L * 2 ^ k : Nat) : Int) % 18446744073709551616 = ((L * 2 ^ k % 18446744073709551616 : Nat) : Int) := by omega
  rw [d1, d2, bits_or_u64_nat _ _ (by omega) (by omega)]
  have key := shl_nat H L k hk (by omega)
  have e : x.toNat = H * 18446744073709551616 + L := by omega
  refine isW_of (by omega) (by omega) ?_
  rw [BitVec.toNat_shiftLeft, e, Nat.shiftLeft_eq]
  have : (2 : Nat) ^ 128 = 340282366920938463463374607431768211456 := by decide
  rw [this, key]
  omega

theorem shr_halves {ah al : Int} {x : BitVec 128} (hx : IsW ah al x) (k : Nat) (hk : k ≤ 64) :
    IsW (ah / 2 ^ k) (bits .or .u64 (al / 2 ^ k) (IntKind.u64.wrap (ah * 2 ^ (64 - k)))) (x >>> k) := by
  have v := hx.val; have h0 := hx.h0; have h1 := hx.h1; have l0 := hx.l0; have l1 := hx.l1
  clear hx
  obtain ⟨H, rfl⟩ := Int.eq_ofNat_of_zero_le h0
  obtain ⟨L, rfl⟩ := Int.eq_ofNat_of_zero_le l0
  have c1 : ((H : Int) * 2 ^ (64 - k)) = ((H * 2 ^ (64 - k) : Nat) : Int) := by simp
  have c2 : ((H : Int) / 2 ^ k) = ((H / 2 ^ k : Nat) : Int) := by simp
  have c3 : ((L : Int) / 2 ^ k) = ((L / 2 ^ k : Nat) : Int) := by simp
  have hq : L / 2 ^ k ≤ L := Nat.div_le_self _ _
  rw [c1, c2, c3, IntKind.wrap_u64]
  have d1 : ((H * 2 ^ (64 - k) : Nat) : Int) % 18446744073709551616 = ((H * 2 ^ (64 - k) % 18446744073709551616 : Nat) : Int) := by omega
  rw [d1, bits_or_u64_nat _ _ (by omega) (by omega)]
  have key := shr_nat H L k hk (by omega) (by omega)
  have e : x.toNat = H * 18446744073709551616 + L := by omega
  have hor : L / 2 ^ k ||| H * 2 ^ (64 - k) % 18446744073709551616 < 2 ^ 64 := Nat.or_lt_two_pow (by omega) (by omega)
  refine isW_of (by omega) (by omega) ?_
  rw [BitVec.toNat_ushiftRight, e, Nat.shiftRight_eq_div_pow, key]
  omega

/-- Shifts by 64 and more. -/
theorem shl_far {ah al : Int} {x : BitVec 128} (hx : IsW ah al x) (k : Nat) (hk : 64 ≤ k) :
    IsW (IntKind.u64.wrap (al * 2 ^ min (k - 64) 64)) 0 (x <<< k) := by
  have e : x <<< k = (x <<< 64) <<< (k - 64) := by rw [← BitVec.shiftLeft_add, show 64 + (k - 64) = k by omega]
  have s := shl_halves hx 64 (by omega)
  have s' : IsW al 0 (x <<< 64) := by
    have l0 := hx.l0; have l1 := hx.l1
    have z1 : IntKind.u64.wrap (ah * 2 ^ 64) = 0 := by rw [IntKind.wrap_u64]; omega
    have z2 : IntKind.u64.wrap (al * 2 ^ 64) = 0 := by rw [IntKind.wrap_u64]; omega
    rw [z1, z2] at s
    obtain ⟨L, rfl⟩ := Int.eq_ofNat_of_zero_le l0
    have o := bits_or_u64_nat 0 L (by omega) (by omega)
    have z3 : (L : Int) / 2 ^ (64 - 64) = (L : Int) := by simp
    rw [z3] at s
    have o' : bits .or .u64 0 (L : Int) = (L : Int) := by simpa using o
    rw [o'] at s
    exact s
  by_cases h : k - 64 ≤ 64
  · have t := shl_halves s' (k - 64) h
    rw [e]
    have z2 : IntKind.u64.wrap (0 * 2 ^ (k - 64)) = 0 := by rw [IntKind.wrap_u64]; simp
    have z3 : (0 : Int) / 2 ^ (64 - (k - 64)) = 0 := by simp
    rw [z2, z3] at t
    have w0 : 0 ≤ IntKind.u64.wrap (al * 2 ^ (k - 64)) := by rw [IntKind.wrap_u64]; omega
    have w1 : IntKind.u64.wrap (al * 2 ^ (k - 64)) < 18446744073709551616 := by rw [IntKind.wrap_u64]; omega
    rw [Nat.min_eq_left h]
    generalize IntKind.u64.wrap (al * 2 ^ (k - 64)) = q at *
    obtain ⟨L, rfl⟩ := Int.eq_ofNat_of_zero_le w0
    have o := bits_or_u64_nat L 0 (by omega) (by omega)
    have o' : bits .or .u64 (L : Int) 0 = (L : Int) := by simpa using o
    rw [o'] at t
    exact t
  · have : x <<< k = 0#128 := BitVec.shiftLeft_eq_zero (by omega)
    rw [this, Nat.min_eq_right (by omega)]
    have z : IntKind.u64.wrap (al * 2 ^ 64) = 0 := by rw [IntKind.wrap_u64]; omega
    rw [z]
    exact ⟨by decide, by decide⟩

theorem shr_far {ah al : Int} {x : BitVec 128} (hx : IsW ah al x) (k : Nat) (hk : 64 ≤ k) :
    IsW 0 (ah / 2 ^ min (k - 64) 64) (x >>> k) := by
  have h0 := hx.h0; have h1 := hx.h1; have l0 := hx.l0; have l1 := hx.l1; have v := hx.val
  obtain ⟨H, rfl⟩ := Int.eq_ofNat_of_zero_le h0
  obtain ⟨L, rfl⟩ := Int.eq_ofNat_of_zero_le l0
  have c : ((H : Int) / 2 ^ min (k - 64) 64) = ((H / 2 ^ min (k - 64) 64 : Nat) : Int) := by simp
  have hq : H / 2 ^ min (k - 64) 64 ≤ H := Nat.div_le_self _ _
  rw [c]
  have hq1 : ((H / 2 ^ min (k - 64) 64 : Nat) : Int) < 18446744073709551616 := by omega
  refine isW_of (Int.natCast_nonneg _) hq1 ?_
  have e : x.toNat = H * 18446744073709551616 + L := by omega
  rw [BitVec.toNat_ushiftRight, Nat.shiftRight_eq_div_pow, e, show k = 64 + (k - 64) by omega, Nat.pow_add, ← Nat.div_div_eq_div_mul]
  have e2 : (H * 18446744073709551616 + L) / 2 ^ 64 = H := by omega
  rw [e2, show 64 + (k - 64) - 64 = k - 64 by omega]
  by_cases h : k - 64 ≤ 64
  · rw [Nat.min_eq_left h]; omega
  · rw [Nat.min_eq_right (by omega)]
    have a : H / 2 ^ (k - 64) = 0 := by
      apply Nat.div_eq_of_lt
      exact Nat.lt_of_lt_of_le (show H < 2 ^ 64 by omega) (Nat.pow_le_pow_right (by omega) (by omega))
    have b : H / 2 ^ 64 = 0 := by apply Nat.div_eq_of_lt; omega
    rw [a, b]; rfl

end Go.Proofs.Ytjnccpbedffijaa
