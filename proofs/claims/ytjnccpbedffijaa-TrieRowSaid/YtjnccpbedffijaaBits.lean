/- Plain laws on numbers of 128 bits: what goes bit by bit, shifts, masks, sizes, order. No program is in sight. -/
import Derived.Test.YtjnccpbedffijaaWordsB
namespace Go.Proofs.Ytjnccpbedffijaa
set_option linter.unusedVariables false

theorem nat_add_xor : ∀ a b : Nat, a + b = (a ^^^ b) + 2 * (a &&& b) := by
  intro a
  induction a using Nat.strongRecOn with
  | ind a ih =>
    intro b
    by_cases ha : a = 0
    · subst ha; simp
    · have h := ih (a / 2) (by omega) (b / 2)
      have x1 : (a ^^^ b) / 2 = a / 2 ^^^ b / 2 := Nat.xor_div_two_pow (n := 1)
      have x2 : (a ^^^ b) % 2 = a % 2 ^^^ b % 2 := Nat.xor_mod_two_pow (n := 1)
      have n1 : (a &&& b) / 2 = a / 2 &&& b / 2 := Nat.and_div_two_pow (n := 1)
      have n2 : (a &&& b) % 2 = a % 2 &&& b % 2 := Nat.and_mod_two_pow (n := 1)
      rw [← x1, ← n1] at h
      have ra : a % 2 = 0 ∨ a % 2 = 1 := by omega
      have rb : b % 2 = 0 ∨ b % 2 = 1 := by omega
      rcases ra with ra | ra <;> rcases rb with rb | rb <;> rw [ra, rb] at x2 n2 <;> simp only [Nat.xor_self, Nat.xor_zero, Nat.zero_xor, Nat.and_self, Nat.and_zero, Nat.zero_and] at x2 n2 <;> omega

theorem add_xor_and (x y : BitVec 128) : x + y = (x ^^^ y) + ((x &&& y) <<< 1) := by
  apply BitVec.eq_of_toNat_eq
  rw [BitVec.toNat_add, BitVec.toNat_add, BitVec.toNat_shiftLeft, BitVec.toNat_xor, BitVec.toNat_and, Nat.shiftLeft_eq, nat_add_xor x.toNat y.toNat]
  omega
theorem or_xor_and (x y : BitVec 128) : x ||| y = (x ^^^ y) ^^^ (x &&& y) := by
  apply BitVec.eq_of_getLsbD_eq; intro i h
  rw [BitVec.getLsbD_or, BitVec.getLsbD_xor, BitVec.getLsbD_xor, BitVec.getLsbD_and]; cases x.getLsbD i <;> cases y.getLsbD i <;> rfl
theorem not_and (x y : BitVec 128) : ~~~ (x &&& y) = ~~~ x ||| ~~~ y := by
  ext i h; simp
theorem xor_xor (x y : BitVec 128) : (x ^^^ y) ^^^ y = x := by
  ext i h; simp
theorem and_or (x y z : BitVec 128) : x &&& (y ||| z) = (x &&& y) ||| (x &&& z) := by
  ext i h; simp; cases x[i] <;> cases y[i] <;> cases z[i] <;> rfl
theorem or_sub (x y : BitVec 128) : (x ||| y) - y = x &&& ~~~ y := by
  have e : (x &&& ~~~ y) + y = x ||| y := by
    rw [BitVec.add_eq_or_of_and_eq_zero]
    · ext i h; simp; cases x[i] <;> cases y[i] <;> rfl
    · ext i h; simp
  rw [← e, BitVec.add_sub_cancel]

theorem cmpW_le {x y : BitVec 128} (h : x.toNat ≤ y.toNat) : cmpW x y ≤ 0 := by
  rcases Nat.lt_or_ge x.toNat y.toNat with l | l
  · rw [cmpW_lt l]; decide
  · rw [cmpW_eq (BitVec.eq_of_toNat_eq (by omega))]; decide
theorem cmpW_ge {x y : BitVec 128} (h : y.toNat ≤ x.toNat) : 0 ≤ cmpW x y := by
  rcases Nat.lt_or_ge y.toNat x.toNat with l | l
  · rw [cmpW_gt l]; decide
  · rw [cmpW_eq (BitVec.eq_of_toNat_eq (by omega))]; decide
theorem cmpW_neg_iff (x y : BitVec 128) : cmpW x y < 0 ↔ x.toNat < y.toNat := by
  constructor
  · intro h
    rcases Nat.lt_or_ge x.toNat y.toNat with l | l
    · exact l
    · have := cmpW_ge l; omega
  · intro h; rw [cmpW_lt h]; decide
theorem and_le (x y : BitVec 128) : (x &&& y).toNat ≤ x.toNat := by rw [BitVec.toNat_and]; exact Nat.and_le_left
theorem le_or (x y : BitVec 128) : y.toNat ≤ (x ||| y).toNat := by rw [BitVec.toNat_or]; exact Nat.right_le_or
theorem le_or' (x y : BitVec 128) : x.toNat ≤ (x ||| y).toNat := by rw [BitVec.toNat_or]; exact Nat.left_le_or

/-! ### Masks -/
theorem mask_bit (n i : Nat) (h : i < 128) : (mask n).getLsbD i = decide (i < n) := by
  unfold mask
  simp only [BitVec.getLsbD_not, BitVec.getLsbD_shiftLeft, BitVec.getLsbD_allOnes, h, decide_true, Bool.true_and]
  by_cases l : i < n
  · simp [l]
  · simp [l]; omega
theorem cut_bit (x : BitVec 128) (n i : Nat) (h : i < 128) : (x &&& mask n).getLsbD i = (x.getLsbD i && decide (i < n)) := by
  rw [BitVec.getLsbD_and, mask_bit n i h]
theorem eq_of_bits {x y : BitVec 128} (h : ∀ i, i < 128 → x.getLsbD i = y.getLsbD i) : x = y := BitVec.eq_of_getLsbD_eq h
theorem cut_toNat (x : BitVec 128) (n : Nat) : (x &&& mask n).toNat = x.toNat % 2 ^ n := by
  apply Nat.eq_of_testBit_eq
  intro i
  rw [Nat.testBit_mod_two_pow]
  rcases Nat.lt_or_ge i 128 with h | h
  · rw [BitVec.testBit_toNat, BitVec.testBit_toNat, cut_bit x n i h, Bool.and_comm]
  · rw [BitVec.testBit_toNat, BitVec.testBit_toNat, BitVec.getLsbD_of_ge _ _ h, BitVec.getLsbD_of_ge _ _ h]; simp
theorem mask_toNat (n : Nat) (h : n ≤ 128) : (mask n).toNat = 2 ^ n - 1 := by
  have e := cut_toNat (BitVec.allOnes 128) n
  rw [BitVec.allOnes_and] at e
  rw [e, BitVec.toNat_allOnes]
  apply Nat.eq_of_testBit_eq
  intro i
  rw [Nat.testBit_mod_two_pow, Nat.testBit_two_pow_sub_one, Nat.testBit_two_pow_sub_one]
  by_cases l : i < n
  · simp [l]; omega
  · simp [l]
theorem mask_all (n : Nat) (h : 128 ≤ n) : mask n = BitVec.allOnes 128 := by
  apply eq_of_bits; intro i hi
  rw [mask_bit n i hi, BitVec.getLsbD_allOnes]
  have l : i < n := by omega
  simp [l, hi]
theorem shl_shr (x : BitVec 128) (n : Nat) : (x <<< n) >>> n = x &&& mask (128 - n) := by
  apply eq_of_bits; intro i hi
  rw [cut_bit _ _ _ hi, BitVec.getLsbD_ushiftRight, BitVec.getLsbD_shiftLeft]
  by_cases l : n + i < 128
  · have l2 : i < 128 - n := by omega
    simp [l, l2]
  · have l2 : ¬ i < 128 - n := by omega
    simp [l, l2]
theorem shr_shl (x : BitVec 128) (n : Nat) : (x >>> n) <<< n = x - (x &&& mask n) := by
  have e : (x >>> n) <<< n + (x &&& mask n) = x := by
    rw [BitVec.add_eq_or_of_and_eq_zero]
    · apply eq_of_bits; intro i hi
      rw [BitVec.getLsbD_or, cut_bit _ _ _ hi, BitVec.getLsbD_shiftLeft, BitVec.getLsbD_ushiftRight]
      by_cases l : i < n
      · simp [l]
      · have e2 : n + (i - n) = i := by omega
        simp [l, hi, e2]
    · apply eq_of_bits; intro i hi
      rw [BitVec.getLsbD_and, cut_bit _ _ _ hi, BitVec.getLsbD_shiftLeft, BitVec.getLsbD_ushiftRight]
      by_cases l : i < n <;> simp [l]
  have f := congrArg (· - (x &&& mask n)) e
  simp only [BitVec.add_sub_cancel] at f
  exact f
theorem shl_one (x : BitVec 128) : x <<< 1 = x + x := by
  apply BitVec.eq_of_toNat_eq
  rw [BitVec.toNat_shiftLeft, BitVec.toNat_add, Nat.shiftLeft_eq]; omega

theorem cut_cut (x : BitVec 128) (n m : Nat) : (x &&& mask m) &&& mask n = x &&& mask (min n m) := by
  apply eq_of_bits; intro i hi
  rw [cut_bit _ _ _ hi, cut_bit _ _ _ hi, cut_bit _ _ _ hi]
  by_cases a : i < n <;> by_cases b : i < m <;> simp [Nat.lt_min, a, b]
theorem cut_self (x : BitVec 128) (n : Nat) : (x &&& mask n) &&& mask n = x &&& mask n := by rw [cut_cut, Nat.min_self]
theorem eq_cut {x y : BitVec 128} {n : Nat} (h : x.toNat % 2 ^ n = y.toNat % 2 ^ n) : x &&& mask n = y &&& mask n := by
  apply BitVec.eq_of_toNat_eq; rw [cut_toNat, cut_toNat, h]
theorem mask_mod (x n : Nat) : x % 340282366920938463463374607431768211456 % 2 ^ n = x % 2 ^ n ∨ 128 < n := by
  rcases Nat.lt_or_ge 128 n with h | h
  · exact .inr h
  · refine .inl (Nat.mod_mod_of_dvd _ ?_)
    exact Nat.pow_dvd_pow 2 h
theorem cut_full (x : BitVec 128) (n : Nat) (h : 128 ≤ n) : x &&& mask n = x := by rw [mask_all n h, BitVec.and_allOnes]
theorem cut_add (x y : BitVec 128) (n : Nat) : ((x &&& mask n) + (y &&& mask n)) &&& mask n = (x + y) &&& mask n := by
  rcases Nat.lt_or_ge 128 n with h | h
  · simp only [cut_full _ n (Nat.le_of_lt h)]
  · apply eq_cut
    have d : ∀ k : Nat, k % 2 ^ 128 % 2 ^ n = k % 2 ^ n := fun k => Nat.mod_mod_of_dvd _ (Nat.pow_dvd_pow 2 h)
    rw [BitVec.toNat_add, BitVec.toNat_add, d, d, cut_toNat, cut_toNat, ← Nat.add_mod]
theorem cut_sub (x y : BitVec 128) (n : Nat) : ((x &&& mask n) - (y &&& mask n)) &&& mask n = (x - y) &&& mask n := by
  -- what is added to both sides
  have a := cut_add ((x &&& mask n) - (y &&& mask n)) (y &&& mask n) n
  have b := cut_add (x - y) y n
  rw [BitVec.sub_add_cancel] at a b
  rw [cut_self] at a
  rw [cut_self] at a
  have c : ((((x &&& mask n) - (y &&& mask n)) &&& mask n) + (y &&& mask n)) &&& mask n = (((x - y) &&& mask n) + (y &&& mask n)) &&& mask n := by rw [a, b]
  have k : ∀ p q r : BitVec 128, ((p &&& mask n) + (r &&& mask n)) &&& mask n = ((q &&& mask n) + (r &&& mask n)) &&& mask n → p &&& mask n = q &&& mask n := by
    intro p q r h
    rw [cut_add, cut_add] at h
    have e : ∀ t : BitVec 128, ((t + r) + - r) &&& mask n = t &&& mask n := by
      intro t; rw [← BitVec.sub_eq_add_neg, BitVec.add_sub_cancel]
    rw [← e p, ← e q, ← cut_add, ← cut_add (q + r), h]
  exact k _ _ _ c
theorem cut_xor (x y : BitVec 128) (n : Nat) : (x ^^^ y) &&& mask n = (x &&& mask n) ^^^ (y &&& mask n) := by
  ext i h; simp; cases x[i] <;> cases y[i] <;> cases (mask n)[i] <;> rfl
theorem cut_or (x y : BitVec 128) (n : Nat) : (x ||| y) &&& mask n = (x &&& mask n) ||| (y &&& mask n) := by
  ext i h; simp; cases x[i] <;> cases y[i] <;> cases (mask n)[i] <;> rfl
theorem cut_and (x y : BitVec 128) (n : Nat) : (x &&& y) &&& mask n = (x &&& mask n) &&& (y &&& mask n) := by
  ext i h; simp; cases x[i] <;> cases y[i] <;> cases (mask n)[i] <;> rfl
theorem cut_not (x : BitVec 128) (n : Nat) : ~~~ (x &&& mask n) &&& mask n = ~~~ x &&& mask n := by
  ext i h; simp; cases x[i] <;> cases (mask n)[i] <;> rfl
theorem cut_le (x : BitVec 128) (n : Nat) : (x &&& mask n).toNat ≤ (mask n).toNat := by rw [BitVec.toNat_and]; exact Nat.and_le_right

/-! ### Sizes -/
theorem bitLenAux_lt : ∀ f x : Nat, x < 2 ^ f → x < 2 ^ Lib.bitLenAux f x := by
  intro f
  induction f with
  | zero => intro x h; simpa [Lib.bitLenAux] using h
  | succ f ih =>
    intro x h
    unfold Lib.bitLenAux
    by_cases e : x = 0
    · simp [e]
    · rw [if_neg e, Nat.add_comm, Nat.pow_succ]
      have := ih (x / 2) (by rw [Nat.pow_succ] at h; omega)
      omega
theorem bitLen_iff (x k : Nat) (h : x < 2 ^ 64) (hk : k ≤ 64) : Lib.bitLen x ≤ k ↔ x < 2 ^ k := by
  constructor
  · intro l
    exact Nat.lt_of_lt_of_le (bitLenAux_lt 64 x h) (Nat.pow_le_pow_right (by decide) l)
  · exact Lib.bitLen_le x k hk
theorem sizeW_iff (x : BitVec 128) (n : Nat) : sizeW x ≤ n ↔ x.toNat < 2 ^ n := by
  have hx := lt128 x
  have ha : x.toNat / 18446744073709551616 < 2 ^ 64 := by omega
  have hb : x.toNat % 18446744073709551616 < 2 ^ 64 := by omega
  have la := (bitLen_iff _ 64 ha (Nat.le_refl _)).2 ha
  have lb := (bitLen_iff _ 64 hb (Nat.le_refl _)).2 hb
  unfold sizeW
  by_cases e : x.toNat / 18446744073709551616 = 0
  · rw [if_pos e]
    have e2 : x.toNat % 18446744073709551616 = x.toNat := by omega
    rw [e2] at lb hb ⊢
    rcases Nat.lt_or_ge 64 n with h | h
    · refine ⟨fun _ => Nat.lt_of_lt_of_le hb (Nat.pow_le_pow_right (by decide) (by omega)), fun _ => by omega⟩
    · exact bitLen_iff _ n hb h
  · rw [if_neg e]
    rcases Nat.lt_or_ge n 64 with h | h
    · have p : 2 ^ n ≤ 2 ^ 64 := Nat.pow_le_pow_right (by decide) (by omega)
      refine ⟨fun _ => by omega, fun k => ?_⟩
      exfalso; omega
    · obtain ⟨m, rfl⟩ : ∃ m, n = 64 + m := ⟨n - 64, by omega⟩
      have q : x.toNat < 2 ^ (64 + m) ↔ x.toNat / 18446744073709551616 < 2 ^ m := by
        rw [Nat.pow_add, Nat.mul_comm]
        exact (Nat.div_lt_iff_lt_mul (by decide)).symm
      rw [q]
      rcases Nat.lt_or_ge 64 m with h2 | h2
      · exact ⟨fun _ => Nat.lt_of_lt_of_le ha (Nat.pow_le_pow_right (by decide) (by omega)), fun _ => by omega⟩
      · rw [← bitLen_iff _ m ha h2]; omega
theorem sizeW_zero (x : BitVec 128) : sizeW x = 0 ↔ x = 0#128 := by
  have := sizeW_iff x 0
  constructor
  · intro h
    have : x.toNat < 2 ^ 0 := this.1 (by omega)
    apply BitVec.eq_of_toNat_eq
    simp at this ⊢; exact this
  · rintro rfl; decide

end Go.Proofs.Ytjnccpbedffijaa
