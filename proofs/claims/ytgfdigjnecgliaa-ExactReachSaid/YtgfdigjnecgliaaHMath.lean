/- Plain laws on hashes of 32 bits: the steps of FNV-1a, mixing and its way back, slots. No program is in sight. -/
import Derived.Laws.BytesArg
import Derived.Laws.Shifts
namespace Go.Proofs.Ytgfdigjnecgliaa
set_option linter.unusedVariables false

/-- One byte more. -/
def stepH (h : BitVec 32) (c : UInt8) : BitVec 32 := (h ^^^ BitVec.ofNat 32 c.toNat) * 16777619#32
/-- The hash of more bytes behind h. -/
def moreH (h : BitVec 32) (l : List UInt8) : BitVec 32 := l.foldl stepH h
def hashH (l : List UInt8) : BitVec 32 := moreH 2166136261#32 l
theorem moreH_nil (h : BitVec 32) : moreH h [] = h := rfl
theorem moreH_append (h : BitVec 32) (l m : List UInt8) : moreH h (l ++ m) = moreH (moreH h l) m := List.foldl_append
theorem moreH_snoc (h : BitVec 32) (l : List UInt8) (c : UInt8) : moreH h (l ++ [c]) = stepH (moreH h l) c := by rw [moreH_append]; rfl
theorem mul_back (x k i : BitVec 32) (h : k * i = 1#32) : x * k * i = x := by
  rw [BitVec.mul_assoc, h, BitVec.mul_one]
theorem mul_inj {x y k i : BitVec 32} (h : k * i = 1#32) (e : x * k = y * k) : x = y := by
  have := congrArg (· * i) e
  simp only [mul_back _ _ _ h] at this
  exact this
theorem xor_inj {x y c : BitVec 32} (e : x ^^^ c = y ^^^ c) : x = y := by
  have := congrArg (· ^^^ c) e
  simpa [BitVec.xor_assoc] using this
theorem xor_inj' {x y c : BitVec 32} (e : c ^^^ x = c ^^^ y) : x = y := by
  rw [BitVec.xor_comm c x, BitVec.xor_comm c y] at e; exact xor_inj e
theorem fnv_inv : (16777619#32) * (899433627#32) = 1#32 := by decide
theorem stepH_inj {h g : BitVec 32} {c : UInt8} (e : stepH h c = stepH g c) : h = g := xor_inj (mul_inj fnv_inv e)
theorem stepH_inj' {h : BitVec 32} {c d : UInt8} (e : stepH h c = stepH h d) : c = d := by
  have k := xor_inj' (mul_inj fnv_inv e)
  have t := congrArg BitVec.toNat k
  rw [BitVec.toNat_ofNat, BitVec.toNat_ofNat] at t
  have hc := c.toNat_lt
  have hd := d.toNat_lt
  exact UInt8.toNat_inj.1 (by omega)
theorem moreH_inj : ∀ (l : List UInt8) {h g : BitVec 32}, moreH h l = moreH g l → h = g := by
  intro l
  induction l with
  | nil => intro h g e; exact e
  | cons c l ih => intro h g e; exact stepH_inj (ih e)
/-- One byte another one: another hash. -/
theorem moreH_byte (h : BitVec 32) (A B : List UInt8) {c d : UInt8} (hne : c ≠ d) : moreH h (A ++ [c] ++ B) ≠ moreH h (A ++ [d] ++ B) := by
  intro e
  rw [moreH_append, moreH_append h _ B, moreH_snoc, moreH_snoc] at e
  exact hne (stepH_inj' (moreH_inj B e))

/-! ### Mixing -/
def fold16 (x : BitVec 32) : BitVec 32 := x ^^^ (x >>> 16)
def fold13 (x : BitVec 32) : BitVec 32 := x ^^^ (x >>> 13)
def back13 (x : BitVec 32) : BitVec 32 := x ^^^ (x >>> 13) ^^^ (x >>> 26)
def mixH (x : BitVec 32) : BitVec 32 := fold16 (fold13 (fold16 x * 0x85EBCA6B#32) * 0xC2B2AE35#32)
def backH (x : BitVec 32) : BitVec 32 := fold16 (back13 (fold16 x * 0x7ED1B41D#32) * 0xA5CB9243#32)
theorem inv_1 : (0x85EBCA6B#32) * (0xA5CB9243#32) = 1#32 := by decide
theorem inv_1' : (0xA5CB9243#32) * (0x85EBCA6B#32) = 1#32 := by decide
theorem inv_2 : (0xC2B2AE35#32) * (0x7ED1B41D#32) = 1#32 := by decide
theorem inv_2' : (0x7ED1B41D#32) * (0xC2B2AE35#32) = 1#32 := by decide
theorem shr_far (x : BitVec 32) (n : Nat) (h : 32 ≤ n) : x >>> n = 0#32 := BitVec.ushiftRight_eq_zero h
theorem fold16_fold16 (x : BitVec 32) : fold16 (fold16 x) = x := by
  apply BitVec.eq_of_getLsbD_eq
  intro i hi
  unfold fold16
  simp only [BitVec.getLsbD_xor, BitVec.getLsbD_ushiftRight]
  have z : x.getLsbD (16 + (16 + i)) = false := BitVec.getLsbD_of_ge _ _ (by omega)
  rw [z]
  cases x.getLsbD i <;> cases x.getLsbD (16 + i) <;> rfl
theorem back13_fold13 (x : BitVec 32) : back13 (fold13 x) = x := by
  apply BitVec.eq_of_getLsbD_eq
  intro i hi
  unfold back13 fold13
  simp only [BitVec.getLsbD_xor, BitVec.getLsbD_ushiftRight]
  have e1 : 13 + (26 + i) = 39 + i := by omega
  have e2 : 13 + (13 + i) = 26 + i := by omega
  have z : x.getLsbD (39 + i) = false := BitVec.getLsbD_of_ge _ _ (by omega)
  rw [e1, e2, z]
  cases x.getLsbD i <;> cases x.getLsbD (13 + i) <;> cases x.getLsbD (26 + i) <;> rfl
theorem fold13_back13 (x : BitVec 32) : fold13 (back13 x) = x := by
  apply BitVec.eq_of_getLsbD_eq
  intro i hi
  unfold back13 fold13
  simp only [BitVec.getLsbD_xor, BitVec.getLsbD_ushiftRight]
  have e1 : 26 + (13 + i) = 39 + i := by omega
  have e2 : 13 + (13 + i) = 26 + i := by omega
  have z : x.getLsbD (39 + i) = false := BitVec.getLsbD_of_ge _ _ (by omega)
  rw [e1, e2, z]
  cases x.getLsbD i <;> cases x.getLsbD (13 + i) <;> cases x.getLsbD (26 + i) <;> rfl
theorem back_mix (x : BitVec 32) : backH (mixH x) = x := by
  unfold backH mixH
  rw [fold16_fold16, mul_back _ _ _ inv_2, back13_fold13, mul_back _ _ _ inv_1, fold16_fold16]
theorem mix_back (x : BitVec 32) : mixH (backH x) = x := by
  unfold backH mixH
  rw [fold16_fold16, mul_back _ _ _ inv_1', fold13_back13, mul_back _ _ _ inv_2', fold16_fold16]
theorem mix_inj {x y : BitVec 32} : mixH x = mixH y ↔ x = y := by
  constructor
  · intro e; rw [← back_mix x, ← back_mix y, e]
  · rintro rfl; rfl

/-! ### Slots -/
/-- The slot of a number in a row of n. -/
def slotN (h : Nat) (n : Nat) : Nat := h * min n 2147483647 / 4294967296
theorem slot_lt {h n : Nat} (hh : h < 4294967296) (h1 : 1 ≤ n) : slotN h n < min n 2147483647 := by
  unfold slotN
  rw [Nat.div_lt_iff_lt_mul (by decide)]
  rw [Nat.mul_comm]
  exact Nat.mul_lt_mul_of_pos_left hh (by omega)
theorem slot_mono {a b n : Nat} (h : a ≤ b) : slotN a n ≤ slotN b n := Nat.div_le_div_right (Nat.mul_le_mul_right _ h)
/-- The least number of a slot. -/
def firstN (x n : Nat) : Nat := (x * 4294967296 + n - 1) / n
theorem first_facts {a n x : Nat} (h1 : 1 ≤ n) (hn : n ≤ 2147483647) (ha : a < 4294967296) (hx : slotN a n = x) :
    firstN x n ≤ a ∧ slotN (firstN x n) n = x ∧ (firstN x n ≠ 0 → slotN (firstN x n - 1) n + 1 = x) := by
  have m : min n 2147483647 = n := by omega
  unfold slotN at hx ⊢
  rw [m] at hx ⊢
  have lo : x * 4294967296 ≤ a * n := by rw [← hx]; exact Nat.div_mul_le_self _ _
  have up : a * n < (x + 1) * 4294967296 := by rw [← hx, Nat.mul_comm (_ + 1)]; exact Nat.lt_mul_div_succ _ (by decide)
  -- the least number
  have f1 : firstN x n * n < x * 4294967296 + n := by
    unfold firstN
    have := Nat.div_mul_le_self (x * 4294967296 + n - 1) n
    omega
  have f2 : x * 4294967296 ≤ firstN x n * n := by
    unfold firstN
    have := Nat.lt_mul_div_succ (x * 4294967296 + n - 1) (show 0 < n by omega)
    rw [Nat.mul_add, Nat.mul_one, Nat.mul_comm n] at this
    omega
  have le : firstN x n ≤ a := by
    rcases Nat.lt_or_ge a (firstN x n) with l | l
    · exfalso
      have : (a + 1) * n ≤ firstN x n * n := Nat.mul_le_mul_right _ l
      rw [Nat.add_mul, Nat.one_mul] at this
      omega
    · exact l
  have le2 : firstN x n * n ≤ a * n := Nat.mul_le_mul_right _ le
  refine ⟨le, ?_, fun h0 => ?_⟩
  · apply Nat.div_eq_of_lt_le
    · exact f2
    · omega
  · obtain ⟨f, hf⟩ : ∃ f, firstN x n = f + 1 := ⟨firstN x n - 1, by omega⟩
    rw [hf] at f1 f2 ⊢
    rw [Nat.add_mul, Nat.one_mul] at f1 f2
    have x1 : x ≠ 0 := by
      rintro rfl
      simp only [firstN] at hf
      have : (0 * 4294967296 + n - 1) / n = 0 := Nat.div_eq_of_lt (by omega)
      omega
    obtain ⟨y, rfl⟩ : ∃ y, x = y + 1 := ⟨x - 1, by omega⟩
    rw [Nat.add_sub_cancel]
    rw [Nat.add_mul, Nat.one_mul] at f1 f2
    have g1 : y * 4294967296 ≤ f * n := by
      clear lo up le le2 hx ha hf
      generalize f * n = Q at *
      generalize y * 4294967296 = R at *
      omega
    have g2 : f * n < (y + 1) * 4294967296 := by
      rw [Nat.add_mul, Nat.one_mul]
      clear lo up le le2 hx ha hf
      generalize f * n = Q at *
      generalize y * 4294967296 = R at *
      omega
    have g3 : f * n / 4294967296 = y := Nat.div_eq_of_lt_le g1 g2
    rw [g3]

end Go.Proofs.Ytgfdigjnecgliaa
