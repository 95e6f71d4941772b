/- Plain laws on the bits of texts: fields, what is put into them, how many first bits are alike. No program is in sight. -/
import Derived.Test.YtjnccpbedffijaaBits
import Derived.Test.YtjnccpbedffijaaTexts
namespace Go.Proofs.Ytjnccpbedffijaa
set_option linter.unusedVariables false

/-- The byte at a place of a text, 0 behind it. -/
def byteS (s : ByteArray) (j : Nat) : Nat := (s.data.toList.getD j 0).toNat
/-- The bit at a place of a text, 0 behind it. -/
def bitS (s : ByteArray) (k : Nat) : Nat := byteS s (k / 8) / 2 ^ (7 - k % 8) % 2
/-- The number that the n bits at off are. -/
def fldN (s : ByteArray) (off : Nat) : Nat → Nat
  | 0 => 0
  | n + 1 => 2 * fldN s off n + bitS s (off + n)
def fldW (s : ByteArray) (off n : Nat) : BitVec 128 := BitVec.ofNat 128 (fldN s off n)

theorem twice_step {h l v : Int} {x : BitVec 128} (k : IsW h l x) (v0 : 0 ≤ v) (v1 : v ≤ 1) :
    IsW ((h * 2 % 18446744073709551616 + l / 9223372036854775808) % 18446744073709551616) ((l * 2 % 18446744073709551616 + v) % 18446744073709551616) (BitVec.ofNat 128 (2 * x.toNat + v.toNat)) := by
  have := k.val; have := k.h0; have := k.h1; have := k.l0; have := k.l1
  refine isW_of (by omega) (by omega) ?_
  rw [BitVec.toNat_ofNat]
  omega
theorem ofNat_twice (a b : Nat) : BitVec.ofNat 128 (2 * (BitVec.ofNat 128 a).toNat + b) = BitVec.ofNat 128 (2 * a + b) := by
  apply BitVec.eq_of_toNat_eq
  rw [BitVec.toNat_ofNat, BitVec.toNat_ofNat, BitVec.toNat_ofNat]
  omega

theorem byteS_lt (s : ByteArray) (j : Nat) : byteS s j < 256 := UInt8.toNat_lt _
theorem byteS_at (s : ByteArray) (j : Nat) (h : j < s.size) : byteS s j = s[j].toNat := by
  unfold byteS
  rw [List.getD_eq_getElem?_getD, List.getElem?_eq_getElem (by simpa using h)]
  rfl
theorem bitS_le (s : ByteArray) (k : Nat) : bitS s k ≤ 1 := by unfold bitS; omega
theorem bitS_at (s : ByteArray) (j r : Nat) (h : r < 8) : bitS s (8 * j + r) = byteS s j / 2 ^ (7 - r) % 2 := by
  unfold bitS
  rw [show (8 * j + r) / 8 = j by omega, show (8 * j + r) % 8 = r by omega]

theorem fldN_lt (s : ByteArray) (off : Nat) : ∀ n, fldN s off n < 2 ^ n := by
  intro n
  induction n with
  | zero => exact (by decide : (0 : Nat) < 2 ^ 0)
  | succ n ih => have := bitS_le s (off + n); unfold fldN; rw [Nat.pow_succ]; omega
theorem fldN_congr {s t : ByteArray} {off off' : Nat} : ∀ n, (∀ j, j < n → bitS s (off + j) = bitS t (off' + j)) → fldN s off n = fldN t off' n := by
  intro n
  induction n with
  | zero => intro _; rfl
  | succ n ih => intro h; unfold fldN; rw [ih (fun j hj => h j (by omega)), h n (by omega)]
theorem fldN_split (s : ByteArray) (off a : Nat) : ∀ b, fldN s off (a + b) = fldN s off a * 2 ^ b + fldN s (off + a) b := by
  intro b
  induction b with
  | zero => simp [fldN]
  | succ b ih =>
    rw [← Nat.add_assoc]
    show 2 * fldN s off (a + b) + bitS s (off + (a + b)) = _ + (2 * fldN s (off + a) b + bitS s (off + a + b))
    rw [ih, Nat.pow_succ, ← Nat.mul_assoc, ← Nat.add_assoc off a b]
    generalize fldN s off a * 2 ^ b = Q
    omega
theorem fldN_bit (s : ByteArray) (off : Nat) : ∀ n j, j < n → fldN s off n / 2 ^ (n - 1 - j) % 2 = bitS s (off + j) := by
  intro n
  induction n with
  | zero => intro j h; omega
  | succ n ih =>
    intro j h
    have l := bitS_le s (off + n)
    by_cases e : j = n
    · subst e
      rw [show j + 1 - 1 - j = 0 by omega]
      unfold fldN
      rw [Nat.pow_zero, Nat.div_one]
      omega
    · have q : n + 1 - 1 - j = (n - 1 - j) + 1 := by omega
      rw [q, Nat.pow_succ, Nat.mul_comm, ← Nat.div_div_eq_div_mul]
      have d : fldN s off (n + 1) / 2 = fldN s off n := by show (2 * fldN s off n + bitS s (off + n)) / 2 = _; omega
      rw [d]
      exact ih j (by omega)
theorem fldN_inj {s t : ByteArray} {off off' n : Nat} (h : fldN s off n = fldN t off' n) : ∀ j, j < n → bitS s (off + j) = bitS t (off' + j) := by
  intro j hj
  rw [← fldN_bit s off n j hj, ← fldN_bit t off' n j hj, h]
theorem fldW_toNat (s : ByteArray) (off n : Nat) (h : n ≤ 128) : (fldW s off n).toNat = fldN s off n := by
  unfold fldW
  rw [BitVec.toNat_ofNat]
  exact Nat.mod_eq_of_lt (Nat.lt_of_lt_of_le (fldN_lt s off n) (Nat.pow_le_pow_right (by decide) h))
theorem fldW_zero (s : ByteArray) (off : Nat) : fldW s off 0 = 0#128 := rfl
theorem fldW_twice (s : ByteArray) (off n : Nat) : fldW s off (n + 1) = BitVec.ofNat 128 (2 * (fldW s off n).toNat + bitS s (off + n)) := (ofNat_twice _ _).symm
theorem or_bit (n b : Nat) (hb : b ≤ 1) : n % 340282366920938463463374607431768211456 * 2 % 340282366920938463463374607431768211456 ||| b % 340282366920938463463374607431768211456 = (2 * n + b) % 340282366920938463463374607431768211456 := by
  have e1 : n % 340282366920938463463374607431768211456 * 2 % 340282366920938463463374607431768211456 = (n % 170141183460469231731687303715884105728) * 2 ^ 1 := by omega
  have e2 : b % 340282366920938463463374607431768211456 = b := by omega
  rw [e1, e2, or_add _ _ 1 (by omega)]
  omega
theorem fldW_or (s : ByteArray) (off n : Nat) : fldW s off (n + 1) = (fldW s off n <<< 1) ||| BitVec.ofNat 128 (bitS s (off + n)) := by
  apply BitVec.eq_of_toNat_eq
  rw [BitVec.toNat_or, BitVec.toNat_shiftLeft, Nat.shiftLeft_eq]
  unfold fldW
  rw [BitVec.toNat_ofNat, BitVec.toNat_ofNat, BitVec.toNat_ofNat]
  exact (or_bit _ _ (bitS_le _ _)).symm
theorem isW_bit {b : Nat} (h : b ≤ 1) : IsW 0 (b : Int) (BitVec.ofNat 128 b) := by
  refine isW_of (by omega) (by omega) ?_
  rw [BitVec.toNat_ofNat]; omega
theorem fldW_cut (s : ByteArray) (off n : Nat) (h : n ≤ 128) : fldW s off n &&& mask n = fldW s off n := by
  apply BitVec.eq_of_toNat_eq
  rw [cut_toNat, fldW_toNat s off n h, Nat.mod_eq_of_lt (fldN_lt s off n)]
theorem fldW_eq {s t : ByteArray} {off off' n : Nat} (h : n ≤ 128) : fldW s off n = fldW t off' n ↔ ∀ j, j < n → bitS s (off + j) = bitS t (off' + j) := by
  constructor
  · intro e
    have := congrArg BitVec.toNat e
    rw [fldW_toNat _ _ _ h, fldW_toNat _ _ _ h] at this
    exact fldN_inj this
  · intro e; unfold fldW; rw [fldN_congr n e]
theorem fldW_split (s : ByteArray) (off a b : Nat) (h : a + b ≤ 128) : (fldW s off a <<< b) ||| fldW s (off + a) b = fldW s off (a + b) := by
  apply BitVec.eq_of_toNat_eq
  rw [BitVec.toNat_or, BitVec.toNat_shiftLeft, Nat.shiftLeft_eq, fldW_toNat _ _ _ (by omega), fldW_toNat _ _ _ (by omega), fldW_toNat _ _ _ h, fldN_split]
  have l := fldN_lt s off (a + b)
  have p : 2 ^ (a + b) ≤ 2 ^ 128 := Nat.pow_le_pow_right (by decide) h
  rw [fldN_split] at l
  rw [Nat.mod_eq_of_lt (by omega), or_add _ _ b (fldN_lt _ _ _)]

/-! ### Bytes of bits -/
/-- The byte that eight bits are. -/
def byteB (f : Nat → Nat) (j : Nat) : Nat :=
  f (8 * j) * 128 + f (8 * j + 1) * 64 + f (8 * j + 2) * 32 + f (8 * j + 3) * 16 + f (8 * j + 4) * 8 + f (8 * j + 5) * 4 + f (8 * j + 6) * 2 + f (8 * j + 7)
/-- The first k of these bits. -/
def partB (f : Nat → Nat) (j : Nat) : Nat → Nat
  | 0 => 0
  | k + 1 => partB f j k * 2 + f (8 * j + k)
theorem partB_8 (f : Nat → Nat) (j : Nat) : partB f j 8 = byteB f j := by
  unfold byteB; simp only [partB, Nat.add_zero]; omega
theorem partB_lt (f : Nat → Nat) (j : Nat) (h : ∀ k, f k ≤ 1) : ∀ k, partB f j k < 2 ^ k := by
  intro k
  induction k with
  | zero => exact (by decide : (0 : Nat) < 2 ^ 0)
  | succ k ih => have := h (8 * j + k); unfold partB; rw [Nat.pow_succ]; omega
theorem byteB_lt (f : Nat → Nat) (j : Nat) (h : ∀ k, f k ≤ 1) : byteB f j < 256 := by rw [← partB_8]; exact partB_lt f j h 8
theorem byteB_congr {f g : Nat → Nat} {j : Nat} (h : ∀ r, r < 8 → f (8 * j + r) = g (8 * j + r)) : byteB f j = byteB g j := by
  have h0 := h 0 (by omega)
  rw [Nat.add_zero] at h0
  unfold byteB
  rw [h0, h 1 (by omega), h 2 (by omega), h 3 (by omega), h 4 (by omega), h 5 (by omega), h 6 (by omega), h 7 (by omega)]
theorem byteB_bit (f : Nat → Nat) (j r : Nat) (h : ∀ k, f k ≤ 1) (hr : r < 8) : byteB f j / 2 ^ (7 - r) % 2 = f (8 * j + r) := by
  have a0 := h (8 * j); have a1 := h (8 * j + 1); have a2 := h (8 * j + 2); have a3 := h (8 * j + 3)
  have a4 := h (8 * j + 4); have a5 := h (8 * j + 5); have a6 := h (8 * j + 6); have a7 := h (8 * j + 7)
  unfold byteB
  match r, hr with
  | 0, _ => simp only [Nat.add_zero]; omega
  | 1, _ => omega
  | 2, _ => omega
  | 3, _ => omega
  | 4, _ => omega
  | 5, _ => omega
  | 6, _ => omega
  | 7, _ => omega
/-- Two bytes that have each bit alike are alike. -/
theorem byte_ext {a b : Nat} (ha : a < 256) (hb : b < 256) (h : ∀ r, r < 8 → a / 2 ^ (7 - r) % 2 = b / 2 ^ (7 - r) % 2) : a = b := by
  have h0 := h 0 (by omega); have h1 := h 1 (by omega); have h2 := h 2 (by omega); have h3 := h 3 (by omega)
  have h4 := h 4 (by omega); have h5 := h 5 (by omega); have h6 := h 6 (by omega); have h7 := h 7 (by omega)
  simp only [Nat.reduceSub, Nat.reducePow] at h0 h1 h2 h3 h4 h5 h6 h7
  omega
theorem byteB_text (s : ByteArray) (j : Nat) : byteB (bitS s) j = byteS s j := by
  refine byte_ext (byteB_lt _ _ (bitS_le s)) (byteS_lt s j) (fun r hr => ?_)
  rw [byteB_bit _ _ _ (bitS_le s) hr, bitS_at s j r hr]

/-- The text of n bytes that are such bits. -/
def textB (f : Nat → Nat) (n : Nat) : ByteArray := strOfNums ((List.range n).map fun j => ((byteB f j : Nat) : Int))
theorem textB_size (f : Nat → Nat) (n : Nat) : (textB f n).size = n := by unfold textB; rw [strOfNums_size]; simp
theorem byteS_textB (f : Nat → Nat) (n j : Nat) (h : ∀ k, f k ≤ 1) (hj : j < n) : byteS (textB f n) j = byteB f j := by
  unfold byteS textB
  rw [strOfNums_data, List.map_map, List.getD_eq_getElem?_getD, List.getElem?_map, List.getElem?_range hj]
  simp only [Option.map_some, Option.getD_some, Function.comp]
  have l := byteB_lt f j h
  generalize byteB f j = q at *
  first
    | (show (UInt8.ofNat _).toNat = q; rw [UInt8.toNat_ofNat']; omega)
    | (simp; omega)
theorem bitS_textB (f : Nat → Nat) (n p : Nat) (h : ∀ k, f k ≤ 1) (hp : p < 8 * n) : bitS (textB f n) p = f p := by
  unfold bitS
  rw [byteS_textB f n _ h (by omega), byteB_bit f _ _ h (by omega)]
  congr 1; omega
theorem textB_congr {f g : Nat → Nat} {n : Nat} (h : ∀ p, p < 8 * n → f p = g p) : textB f n = textB g n := by
  unfold textB
  congr 1
  apply List.map_congr_left
  intro j hj
  rw [List.mem_range] at hj
  rw [byteB_congr (fun r hr => h _ (by omega))]
theorem textB_self (s : ByteArray) : textB (bitS s) s.size = s := by
  have e : (textB (bitS s) s.size).data.toList = s.data.toList := by
    unfold textB
    rw [strOfNums_data, List.map_map]
    apply List.ext_getElem
    · simp
    · intro i h1 h2
      have hi : i < s.size := by simpa using h2
      rw [List.getElem_map, List.getElem_range]
      simp only [Function.comp]
      rw [byteB_text, byteS_at s i hi]
      apply UInt8.toNat_inj.1
      rw [UInt8.toNat_ofNat']
      have l := UInt8.toNat_lt s[i]
      have e : s[i] = s.data.toList[i] := rfl
      rw [← e]; omega
  have f : (textB (bitS s) s.size).data = s.data := Array.toList_inj.1 e
  cases s; cases h : textB _ _; rw [h] at f; simpa using f

/-- The bits of a text with the lowest n bits of x put in at off, when i of them are there. -/
def putB (s : ByteArray) (off n : Nat) (x : BitVec 128) (i p : Nat) : Nat := if off ≤ p ∧ p < off + i then x.toNat / 2 ^ (off + n - 1 - p) % 2 else bitS s p
theorem putB_le (s : ByteArray) (off n : Nat) (x : BitVec 128) (i p : Nat) : putB s off n x i p ≤ 1 := by
  unfold putB; split
  · omega
  · exact bitS_le s p
theorem putB_0 (s : ByteArray) (off n : Nat) (x : BitVec 128) (p : Nat) : putB s off n x 0 p = bitS s p := by
  unfold putB; rw [if_neg (by omega)]
theorem putB_succ (s : ByteArray) (off n : Nat) (x : BitVec 128) (i p : Nat) (h : i < n) : putB s off n x (i + 1) p = if p = off + i then x.toNat / 2 ^ (n - 1 - i) % 2 else putB s off n x i p := by
  unfold putB
  by_cases e : p = off + i
  · subst e
    rw [if_pos ⟨by omega, by omega⟩, if_pos rfl, show off + n - 1 - (off + i) = n - 1 - i by omega]
  · rw [if_neg e]
    by_cases c : off ≤ p ∧ p < off + i
    · rw [if_pos c, if_pos ⟨by omega, by omega⟩]
    · rw [if_neg c, if_neg (by omega)]
/-- What such a text is. -/
def putT (s : ByteArray) (off n : Nat) (x : BitVec 128) : ByteArray := textB (putB s off n x n) s.size
theorem putT_size (s : ByteArray) (off n : Nat) (x : BitVec 128) : (putT s off n x).size = s.size := textB_size _ _
theorem bitS_put (s : ByteArray) (off n : Nat) (x : BitVec 128) (p : Nat) (h : p < 8 * s.size) : bitS (putT s off n x) p = putB s off n x n p :=
  bitS_textB _ _ _ (putB_le s off n x n) h
theorem fld_put (s : ByteArray) (off n : Nat) (x : BitVec 128) (h : off + n ≤ 8 * s.size) (hn : n ≤ 128) : fldW (putT s off n x) off n = x &&& mask n := by
  apply eq_of_bits
  intro i hi
  rw [cut_bit _ _ _ hi]
  by_cases l : i < n
  · have b := fldN_bit (putT s off n x) off n (n - 1 - i) (by omega)
    rw [bitS_put _ _ _ _ _ (by omega), show n - 1 - (n - 1 - i) = i by omega] at b
    unfold putB at b
    rw [if_pos ⟨by omega, by omega⟩, show off + n - 1 - (off + (n - 1 - i)) = i by omega] at b
    rw [← fldW_toNat _ _ _ hn] at b
    simp only [l, decide_true, Bool.and_true]
    rw [BitVec.getLsbD, BitVec.getLsbD, Nat.testBit, Nat.testBit, Nat.shiftRight_eq_div_pow, Nat.shiftRight_eq_div_pow, Nat.and_comm 1, Nat.and_comm 1, Nat.and_one_is_mod, Nat.and_one_is_mod, b]
  · simp only [l, decide_false, Bool.and_false]
    have e := fldW_cut (putT s off n x) off n hn
    have f := cut_bit (fldW (putT s off n x) off n) n i hi
    rw [e] at f
    rw [f]; simp [l]

/-! ### How many first bits are alike -/
structure IsPre (s t : ByteArray) (k : Nat) : Prop where
  le : k ≤ 8 * min s.size t.size
  alike : ∀ p, p < k → bitS s p = bitS t p
  last : k < 8 * min s.size t.size → bitS s k ≠ bitS t k
theorem IsPre.symm {s t : ByteArray} {k : Nat} (h : IsPre s t k) : IsPre t s k :=
  ⟨by rw [Nat.min_comm]; exact h.le, fun p hp => (h.alike p hp).symm, fun hk e => h.last (by rw [Nat.min_comm]; exact hk) e.symm⟩
theorem isPre_ex (s t : ByteArray) : ∃ k, IsPre s t k := by
  have h : ∀ m, m ≤ 8 * min s.size t.size → (∃ k, IsPre s t k) ∨ ∀ p, p < m → bitS s p = bitS t p := by
    intro m
    induction m with
    | zero => intro _; right; intro p hp; omega
    | succ m ih =>
      intro hm
      rcases ih (by omega) with ⟨k, hk⟩ | h
      · exact .inl ⟨k, hk⟩
      · by_cases e : bitS s m = bitS t m
        · right; intro p hp
          by_cases q : p = m
          · subst q; exact e
          · exact h p (by omega)
        · exact .inl ⟨m, by omega, h, fun _ => e⟩
  rcases h _ (Nat.le_refl _) with k | h
  · exact k
  · exact ⟨_, Nat.le_refl _, h, fun k => absurd k (by omega)⟩
theorem IsPre.uniq {s t : ByteArray} {k m : Nat} (h : IsPre s t k) (g : IsPre s t m) : k = m := by
  rcases Nat.lt_trichotomy k m with l | e | l
  · exact absurd (g.alike k l) (h.last (Nat.lt_of_lt_of_le l g.le))
  · exact e
  · exact absurd (h.alike m l) (g.last (Nat.lt_of_lt_of_le l h.le))
theorem fld_pre {s t : ByteArray} {k : Nat} (h : IsPre s t k) (n : Nat) (hn : n ≤ 128) (hs : n ≤ 8 * s.size) (ht : n ≤ 8 * t.size) : fldW s 0 n = fldW t 0 n ↔ n ≤ k := by
  rw [fldW_eq hn]
  simp only [Nat.zero_add]
  constructor
  · intro a
    rcases Nat.lt_or_ge k n with l | l
    · exact absurd (a k l) (h.last (by omega))
    · exact l
  · intro l j hj; exact h.alike j (by omega)

end Go.Proofs.Ytjnccpbedffijaa
