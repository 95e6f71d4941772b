/- Plain laws on sums of words of 16 bits that go round: what a text's sum is, by its bytes. No program is in sight. -/
import Derived.Laws.BytesArg
import Derived.Laws.Shifts
namespace Go.Proofs.Ytlgllgdaodfocaa
set_option linter.unusedVariables false

/-- The sum of two words that goes round. -/
def oc (a b : Nat) : Nat := if 65536 ≤ a + b then a + b - 65535 else a + b
/-- What words come to that are t, taken together. -/
def ocN (t : Nat) : Nat := if t = 0 then 0 else (t - 1) % 65535 + 1
theorem ocN_0 : ocN 0 = 0 := rfl
theorem ocN_lt (t : Nat) : ocN t < 65536 := by unfold ocN; split <;> omega
theorem ocN_zero (t : Nat) : ocN t = 0 ↔ t = 0 := by unfold ocN; split <;> omega
theorem ocN_small {t : Nat} (h : t < 65536) : ocN t = t := by unfold ocN; split <;> omega
theorem ocN_mod (t : Nat) : ocN t % 65535 = t % 65535 := by unfold ocN; split <;> omega
theorem ocN_congr {a b : Nat} (h : a % 65535 = b % 65535) (z : a = 0 ↔ b = 0) : ocN a = ocN b := by unfold ocN; split <;> split <;> omega
theorem ocN_unique {t n : Nat} (hn : n < 65536) (h : n % 65535 = t % 65535) (z : n = 0 ↔ t = 0) : n = ocN t := by
  rw [← ocN_small hn]; exact ocN_congr h z
theorem ocN_full {t : Nat} : ocN t = 65535 ↔ t ≠ 0 ∧ t % 65535 = 0 := by unfold ocN; split <;> omega
theorem oc_lt {a b : Nat} (ha : a < 65536) (hb : b < 65536) : oc a b < 65536 := by unfold oc; split <;> omega
theorem oc_comm (a b : Nat) : oc a b = oc b a := by unfold oc; rw [Nat.add_comm]
theorem oc_small {a b : Nat} (ha : a < 65536) (hb : b < 65536) : oc a b = ocN (a + b) := by unfold oc ocN; split <;> split <;> omega
theorem oc_ocN (a b : Nat) : oc (ocN a) (ocN b) = ocN (a + b) := by
  rw [oc_small (ocN_lt a) (ocN_lt b)]
  have h1 := ocN_mod a; have h2 := ocN_mod b
  have z1 := ocN_zero a; have z2 := ocN_zero b
  refine ocN_congr ?_ ?_
  · rw [Nat.add_mod, h1, h2, ← Nat.add_mod]
  · omega
theorem oc_word (a : Nat) {b : Nat} (h : b < 65536) : oc (ocN a) b = ocN (a + b) := by
  have := oc_ocN a b; rwa [ocN_small h] at this
theorem oc_assoc {a b c : Nat} (ha : a < 65536) (hb : b < 65536) (hc : c < 65536) : oc (oc a b) c = oc a (oc b c) := by
  rw [oc_small ha hb, oc_small hb hc, oc_word _ hc, oc_comm a, oc_word _ ha, Nat.add_comm (b + c) a, Nat.add_assoc]
theorem oc_zero {a b : Nat} (ha : a < 65536) (hb : b < 65536) : oc a b = 0 ↔ a = 0 ∧ b = 0 := by unfold oc; split <;> omega
theorem oc_none {a : Nat} (ha : a < 65536) : oc a 0 = a := by unfold oc; split <;> omega
theorem oc_full {a : Nat} (ha : a < 65536) (h : a ≠ 0) : oc a 65535 = a := by unfold oc; split <;> omega
theorem oc_not {a : Nat} (ha : a < 65536) : oc a (65535 - a) = 65535 := by unfold oc; split <;> omega

/-! ### The words of a text -/
/-- What a text's words are, taken together; first the high byte of a word, or its low one. -/
def wsum : Bool → List UInt8 → Nat
  | _, [] => 0
  | e, c :: l => c.toNat * (if e then 256 else 1) + wsum (!e) l
theorem wsum_append : ∀ (l m : List UInt8) (e : Bool), wsum e (l ++ m) = wsum e l + wsum (if l.length % 2 = 0 then e else !e) m := by
  intro l
  induction l with
  | nil => intro m e; simp [wsum]
  | cons c l ih =>
    intro m e
    rw [List.cons_append]
    show c.toNat * _ + wsum (!e) (l ++ m) = c.toNat * _ + wsum (!e) l + _
    rw [ih, Nat.add_assoc, List.length_cons]
    congr 2
    rcases Nat.mod_two_eq_zero_or_one l.length with h | h
    · rw [if_pos h, if_neg (by omega)]
    · rw [if_neg (by omega), if_pos (by omega)]; cases e <;> rfl
theorem wsum_even {l : List UInt8} (m : List UInt8) (e : Bool) (h : l.length % 2 = 0) : wsum e (l ++ m) = wsum e l + wsum e m := by rw [wsum_append, if_pos h]
theorem wsum_odd {l : List UInt8} (m : List UInt8) (e : Bool) (h : l.length % 2 = 1) : wsum e (l ++ m) = wsum e l + wsum (!e) m := by rw [wsum_append, if_neg (by omega)]
theorem wsum_turn : ∀ (l : List UInt8) (e : Bool), wsum (!e) l % 65535 = 256 * wsum e l % 65535 := by
  intro l
  induction l with
  | nil => intro e; rfl
  | cons c l ih =>
    intro e
    have h := ih (!e)
    cases e
    · show (c.toNat * 256 + wsum false l) % 65535 = 256 * (c.toNat * 1 + wsum true l) % 65535
      have h' : wsum false l % 65535 = 256 * wsum true l % 65535 := h
      omega
    · show (c.toNat * 1 + wsum true l) % 65535 = 256 * (c.toNat * 256 + wsum false l) % 65535
      have h' : wsum true l % 65535 = 256 * wsum false l % 65535 := h
      omega
theorem wsum_zero : ∀ (l : List UInt8) (e : Bool), wsum e l = 0 ↔ ∀ c ∈ l, c = 0 := by
  intro l
  induction l with
  | nil => intro e; simp [wsum]
  | cons c l ih =>
    intro e
    show c.toNat * _ + wsum (!e) l = 0 ↔ _
    rw [List.forall_mem_cons, ← ih (!e)]
    have z : c = 0 ↔ c.toNat = 0 := by
      constructor
      · rintro rfl; rfl
      · intro h; exact UInt8.toNat_inj.1 (by rw [h]; rfl)
    rw [z]
    cases e
    · simp
    · simp; omega
theorem wsum_same_zero (l : List UInt8) (e : Bool) : wsum e l = 0 ↔ wsum (!e) l = 0 := by rw [wsum_zero, wsum_zero]
theorem wsum_zeros (n : Nat) (e : Bool) : wsum e (List.replicate n 0) = 0 := by
  rw [wsum_zero]; intro c h; exact List.eq_of_mem_replicate h
theorem wsum_two (a b : UInt8) : wsum true [a, b] = a.toNat * 256 + b.toNat := by simp [wsum]
theorem wsum_le : ∀ (l : List UInt8) (e : Bool), wsum e l ≤ 65280 * l.length := by
  intro l
  induction l with
  | nil => intro e; simp [wsum]
  | cons c l ih =>
    intro e
    have hc : c.toNat < 256 := c.toNat_lt
    have h := ih (!e)
    have d : c.toNat * (if e then 256 else 1) ≤ 65280 := by cases e <;> simp <;> omega
    show c.toNat * _ + wsum (!e) l ≤ _
    rw [List.length_cons]; omega

/-- A text's sum. -/
def sumS (l : List UInt8) : Nat := ocN (wsum true l)
theorem sumS_lt (l : List UInt8) : sumS l < 65536 := ocN_lt _
theorem sumS_nil : sumS [] = 0 := rfl
theorem sumS_even {l : List UInt8} (m : List UInt8) (h : l.length % 2 = 0) : sumS (l ++ m) = oc (sumS l) (sumS m) := by
  unfold sumS; rw [wsum_even m true h, oc_ocN]
/-- A word with its bytes turned about. -/
def turnW (w : Nat) : Nat := w * 256 % 65536 + w / 256
theorem turnW_lt {w : Nat} (h : w < 65536) : turnW w < 65536 := by unfold turnW; omega
theorem turnW_ocN (t : Nat) : turnW (ocN t) = ocN (256 * t) := by
  have l := ocN_lt t
  have m := ocN_mod t
  have z := ocN_zero t
  generalize ocN t = n at *
  refine ocN_unique (turnW_lt l) ?_ ?_
  · unfold turnW
    have e : n * 256 % 65536 = n % 256 * 256 := by omega
    rw [e]
    obtain ⟨h, hh⟩ : ∃ h, n / 256 = h := ⟨_, rfl⟩
    obtain ⟨k, hk⟩ : ∃ k, n % 256 = k := ⟨_, rfl⟩
    have f : n = 256 * h + k := by omega
    rw [hh, hk]
    clear e hh hk l z
    subst f
    obtain ⟨q, hq⟩ : ∃ q, (256 * h + k) / 65535 = q := ⟨_, rfl⟩
    obtain ⟨p, hp⟩ : ∃ p, t / 65535 = p := ⟨_, rfl⟩
    obtain ⟨r, hr⟩ : ∃ r, t % 65535 = r := ⟨_, rfl⟩
    have f1 : 256 * h + k = 65535 * q + r := by omega
    have f2 : t = 65535 * p + r := by omega
    have f3 : k * 256 + h + 65535 * h = 65535 * (256 * q) + 256 * r := by omega
    have f4 : 256 * t = 65535 * (256 * p) + 256 * r := by omega
    omega
  · rw [show 256 * t = 0 ↔ t = 0 by omega, ← z]
    unfold turnW
    have e : n * 256 % 65536 = n % 256 * 256 := by omega
    rw [e]
    clear e m z
    omega
theorem turnW_sum (l : List UInt8) : turnW (sumS l) = ocN (wsum false l) := by
  unfold sumS
  rw [turnW_ocN]
  refine ocN_congr ?_ ?_
  · exact (wsum_turn l true).symm
  · have := wsum_same_zero l true
    simp only [Bool.not_true] at this
    omega
theorem sumS_odd {l : List UInt8} (m : List UInt8) (h : l.length % 2 = 1) : sumS (l ++ m) = oc (sumS l) (turnW (sumS m)) := by
  rw [turnW_sum]; unfold sumS; rw [wsum_odd m true h]; exact (oc_ocN _ _).symm
theorem sumS_zero (l : List UInt8) : sumS l = 0 ↔ ∀ c ∈ l, c = 0 := by unfold sumS; rw [ocN_zero, wsum_zero]
theorem sumS_full (l : List UInt8) : sumS l = 65535 ↔ wsum true l ≠ 0 ∧ wsum true l % 65535 = 0 := ocN_full
/-- A word more. -/
theorem sumS_word (l : List UInt8) (a b : UInt8) (h : l.length % 2 = 0) : sumS (l ++ [a, b]) = oc (sumS l) (a.toNat * 256 + b.toNat) := by
  have ha := a.toNat_lt; have hb := b.toNat_lt
  unfold sumS; rw [wsum_even _ _ h, wsum_two, oc_word _ (by omega)]
theorem sumS_byte (l : List UInt8) (a : UInt8) (h : l.length % 2 = 0) : sumS (l ++ [a]) = oc (sumS l) (a.toNat * 256) := by
  have ha := a.toNat_lt
  unfold sumS; rw [wsum_even _ _ h, oc_word _ (by omega)]; simp [wsum]

/-! ### Checksums -/
theorem good_made (A B : List UInt8) (a b : UInt8) (hA : A.length % 2 = 0) (hC : a.toNat * 256 + b.toNat = 65535 - sumS (A ++ B)) : sumS (A ++ [a, b] ++ B) = 65535 := by
  have h1 : wsum true (A ++ [a, b] ++ B) = wsum true (A ++ B) + (a.toNat * 256 + b.toNat) := by
    rw [List.append_assoc, wsum_even _ _ hA, wsum_even _ _ hA, wsum_even B true (by simp), wsum_two]; omega
  unfold sumS at hC ⊢
  have l := ocN_lt (wsum true (A ++ B))
  rw [h1, ← oc_word _ (by omega), hC, oc_not l]
theorem good_broken (A B : List UInt8) (a b c d : UInt8) (hA : A.length % 2 = 0) (hg : sumS (A ++ [a, b] ++ B) = 65535) (hne : (a.toNat * 256 + b.toNat) % 65535 ≠ (c.toNat * 256 + d.toNat) % 65535) : sumS (A ++ [c, d] ++ B) ≠ 65535 := by
  rw [sumS_full] at hg
  intro h
  rw [sumS_full] at h
  rw [List.append_assoc, wsum_even _ _ hA, wsum_even B true (by simp), wsum_two] at hg h
  omega
theorem update_is (A B : List UInt8) (a b c d : UInt8) (hA : A.length % 2 = 0) (hz : ∃ e ∈ A ++ [c, d] ++ B, e ≠ 0) :
    65535 - oc (oc (65535 - (65535 - sumS (A ++ [a, b] ++ B))) (65535 - (a.toNat * 256 + b.toNat))) (c.toNat * 256 + d.toNat) = 65535 - sumS (A ++ [c, d] ++ B) := by
  have l := sumS_lt (A ++ [a, b] ++ B)
  have ha := a.toNat_lt; have hb := b.toNat_lt; have hc := c.toNat_lt; have hd := d.toNat_lt
  rw [show 65535 - (65535 - sumS (A ++ [a, b] ++ B)) = sumS (A ++ [a, b] ++ B) by omega]
  congr 1
  have hn : wsum true (A ++ [c, d] ++ B) ≠ 0 := by
    intro e
    rw [wsum_zero] at e
    obtain ⟨x, hx, hx0⟩ := hz
    exact hx0 (e x hx)
  have h1 : wsum true (A ++ [a, b] ++ B) = wsum true A + (a.toNat * 256 + b.toNat) + wsum true B := by
    rw [List.append_assoc, wsum_even _ _ hA, wsum_even B true (by simp), wsum_two]; omega
  have h2 : wsum true (A ++ [c, d] ++ B) = wsum true A + (c.toNat * 256 + d.toNat) + wsum true B := by
    rw [List.append_assoc, wsum_even _ _ hA, wsum_even B true (by simp), wsum_two]; omega
  unfold sumS
  rw [oc_word _ (by omega), oc_word _ (by omega)]
  rw [h2] at hn ⊢
  rw [h1]
  exact ocN_congr (by omega) (by omega)

end Go.Proofs.Ytlgllgdaodfocaa
