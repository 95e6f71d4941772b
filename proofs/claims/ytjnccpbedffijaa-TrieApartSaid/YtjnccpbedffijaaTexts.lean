/- Plain laws on texts of words: the number of a text, texts in their order, a word out of its text. No program is in sight. -/
import Derived.Test.YtjnccpbedffijaaOf
import Derived.Test.YtjnccpbedffijaaBits
namespace Go.Proofs.Ytjnccpbedffijaa
set_option linter.unusedVariables false

theorem numFrom (l : List UInt8) : ∀ a : Nat, l.foldl (fun a b => a * 256 + b.toNat) a = a * 256 ^ l.length + numOf l := by
  induction l with
  | nil => intro a; simp [numOf]
  | cons c l ih =>
    intro a
    have h1 := ih (a * 256 + c.toNat)
    have h2 := ih c.toNat
    have e : numOf (c :: l) = l.foldl (fun a b => a * 256 + b.toNat) c.toNat := by simp [numOf]
    rw [List.foldl_cons, h1, e, h2, List.length_cons, Nat.pow_succ, Nat.add_mul]
    rw [Nat.mul_assoc, Nat.mul_comm 256 (256 ^ l.length), Nat.add_assoc]
theorem numOf_cons (c : UInt8) (l : List UInt8) : numOf (c :: l) = c.toNat * 256 ^ l.length + numOf l := by
  have e : numOf (c :: l) = l.foldl (fun a b => a * 256 + b.toNat) c.toNat := by simp [numOf]
  rw [e, numFrom]
theorem numOf_lt : ∀ l : List UInt8, numOf l < 256 ^ l.length := by
  intro l
  induction l with
  | nil => simp [numOf]
  | cons c l ih =>
    have hc : c.toNat < 256 := c.toNat_lt
    rw [numOf_cons, List.length_cons, Nat.pow_succ]
    have : c.toNat * 256 ^ l.length + 256 ^ l.length ≤ 256 * 256 ^ l.length := by
      have e : c.toNat * 256 ^ l.length + 256 ^ l.length = (c.toNat + 1) * 256 ^ l.length := by rw [Nat.add_mul, Nat.one_mul]
      rw [e]; exact Nat.mul_le_mul_right _ hc
    rw [Nat.mul_comm (256 ^ l.length) 256]
    omega

theorem bytesLess_num : ∀ (l m : List UInt8), l.length = m.length → Op.bytesLess l m = decide (numOf l < numOf m) := by
  intro l
  induction l with
  | nil => intro m h; cases m with
    | nil => simp [Op.bytesLess, numOf]
    | cons => simp at h
  | cons c l ih =>
    intro m h
    cases m with
    | nil => simp at h
    | cons d m =>
      have hl : l.length = m.length := by simpa using h
      unfold Op.bytesLess
      rw [ih m hl, numOf_cons, numOf_cons, hl]
      have a := numOf_lt l
      have b := numOf_lt m
      rw [hl] at a
      generalize 256 ^ m.length = P at *
      by_cases e : c = d
      · subst e
        have h1 : (c < c) = False := by simp
        simp [h1]
      · have hb : (c == d) = false := by simpa using e
        rw [hb, Bool.false_and, Bool.or_false]
        have ne : c.toNat ≠ d.toNat := fun q => e (UInt8.toNat_inj.1 q)
        rw [Bool.eq_iff_iff, decide_eq_true_eq, decide_eq_true_eq, UInt8.lt_iff_toNat_lt]
        rcases Nat.lt_or_ge c.toNat d.toNat with lt | ge
        · have : (c.toNat + 1) * P ≤ d.toNat * P := Nat.mul_le_mul_right _ lt
          rw [Nat.add_mul, Nat.one_mul] at this
          constructor <;> intro _ <;> omega
        · have gt : d.toNat + 1 ≤ c.toNat := by omega
          have : (d.toNat + 1) * P ≤ c.toNat * P := Nat.mul_le_mul_right _ gt
          rw [Nat.add_mul, Nat.one_mul] at this
          constructor <;> intro _ <;> omega

theorem numOf_inj : ∀ (l m : List UInt8), l.length = m.length → numOf l = numOf m → l = m := by
  intro l
  induction l with
  | nil => intro m h _; cases m with
    | nil => rfl
    | cons => simp at h
  | cons c l ih =>
    intro m h e
    cases m with
    | nil => simp at h
    | cons d m =>
      have hl : l.length = m.length := by simpa using h
      rw [numOf_cons, numOf_cons, hl] at e
      have a := numOf_lt l
      have b := numOf_lt m
      rw [hl] at a
      have hp : 0 < 256 ^ m.length := Nat.pow_pos (by decide)
      have e1 : numOf l = numOf m := by
        have := congrArg (· % 256 ^ m.length) e
        simpa [Nat.mul_add_mod', Nat.mod_eq_of_lt a, Nat.mod_eq_of_lt b, Nat.add_mod] using this
      have e2 : c.toNat = d.toNat := by
        rw [e1] at e
        exact Nat.eq_of_mul_eq_mul_right hp (Nat.add_right_cancel e)
      rw [UInt8.toNat_inj.1 e2, ih m hl e1]

/-! ### A word's text -/
def tb (x : BitVec 128) (j : Nat) : UInt8 := UInt8.ofNat (x.toNat / 2 ^ (8 * (15 - j)) % 256)
theorem tb_toNat (x : BitVec 128) (j : Nat) : (tb x j).toNat = x.toNat / 2 ^ (8 * (15 - j)) % 256 := by
  unfold tb; rw [UInt8.toNat_ofNat']; omega
theorem textW_list (x : BitVec 128) : (textW x).toList = (List.range 16).map (tb x) := by
  rw [ByteArray.toList_eq]
  unfold textW bytesW
  rw [strOfNums_data, List.map_map]
  rfl
theorem textW_data (x : BitVec 128) : (textW x).data.toList = (List.range 16).map (tb x) := by rw [← ByteArray.toList_eq]; exact textW_list x
theorem textW_length (x : BitVec 128) : (textW x).toList.length = 16 := by rw [textW_list]; simp
theorem textW_size (x : BitVec 128) : (textW x).size = 16 := by unfold textW; rw [strOfNums_size]; simp [bytesW]
theorem numOf_text_upto (x : BitVec 128) : ∀ k, k ≤ 16 → numOf ((List.range k).map (tb x)) = x.toNat / 2 ^ (8 * (16 - k)) := by
  intro k
  induction k with
  | zero =>
    intro _
    have h := lt128 x
    show 0 = _
    symm
    apply Nat.div_eq_of_lt
    exact h
  | succ k ih =>
    intro hk
    rw [List.range_succ, List.map_append, List.map_singleton, numOf_snoc, ih (by omega), tb_toNat]
    have e1 : 8 * (16 - k) = 8 * (15 - k) + 8 := by omega
    have e2 : 8 * (16 - (k + 1)) = 8 * (15 - k) := by omega
    rw [e1, e2, Nat.pow_add, ← Nat.div_div_eq_div_mul]
    omega
theorem numOf_text (x : BitVec 128) : numOf (textW x).toList = x.toNat := by
  rw [textW_list, numOf_text_upto x 16 (Nat.le_refl _)]; simp
theorem wordOf_text (x : BitVec 128) : wordOf (textW x).data.toList = x := by
  unfold wordOf; rw [← ByteArray.toList_eq, numOf_text]; simp
theorem text_less (x y : BitVec 128) : Op.bytesLess (textW x).toList (textW y).toList = decide (x.toNat < y.toNat) := by
  rw [bytesLess_num _ _ (by rw [textW_length, textW_length]), numOf_text, numOf_text]
theorem text_eq (x y : BitVec 128) : ((textW x).toList == (textW y).toList) = decide (x = y) := by
  rw [Bool.eq_iff_iff, beq_iff_eq, decide_eq_true_eq]
  constructor
  · intro h
    apply BitVec.eq_of_toNat_eq
    rw [← numOf_text x, ← numOf_text y, h]
  · rintro rfl; rfl

end Go.Proofs.Ytjnccpbedffijaa
