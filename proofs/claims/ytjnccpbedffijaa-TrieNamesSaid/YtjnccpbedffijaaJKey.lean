/- Bits of bytes as a list, and the bytes of some bits. No program is in sight. -/
import Derived.Test.YtjnccpbedffijaaFMath
import Derived.Test.YtjnccpbedffijaaJMath
namespace Go.Proofs.Ytjnccpbedffijaa
set_option linter.unusedVariables false

/-- All bits of bytes. -/
def bitL (s : ByteArray) : List Bool := (List.range (8 * s.size)).map fun i => decide (bitS s i = 1)
theorem bitL_length (s : ByteArray) : (bitL s).length = 8 * s.size := by simp [bitL]
theorem bitL_at (s : ByteArray) (i : Nat) (h : i < 8 * s.size) : (bitL s)[i]? = some (decide (bitS s i = 1)) := by
  unfold bitL; rw [List.getElem?_map, List.getElem?_range h]; rfl
theorem bit_toNat (s : ByteArray) (i : Nat) : (decide (bitS s i = 1)).toNat = bitS s i := by
  have := bitS_le s i
  by_cases e : bitS s i = 1
  · simp [e]
  · have : bitS s i = 0 := by omega
    simp [this]
/-- The bits bs, as bytes. -/
structure IsKey (key : ByteArray) (bs : List Bool) : Prop where
  few : bs.length ≤ 256
  size : key.size = (bs.length + 7) / 8
  bit : ∀ i, i < 8 * key.size → bitS key i = (bs.getD i false).toNat
def keyJ (bs : List Bool) : ByteArray := textB (fun i => (bs.getD i false).toNat) ((bs.length + 7) / 8)
theorem keyJ_size (bs : List Bool) : (keyJ bs).size = (bs.length + 7) / 8 := textB_size _ _
theorem toNat_le (b : Bool) : b.toNat ≤ 1 := by cases b <;> decide
theorem keyJ_is {bs : List Bool} (h : bs.length ≤ 256) : IsKey (keyJ bs) bs :=
  ⟨h, keyJ_size bs, fun i hi => by
    rw [keyJ_size] at hi
    exact bitS_textB _ _ _ (fun k => toNat_le _) hi⟩
theorem IsKey.eq {key : ByteArray} {bs : List Bool} (h : IsKey key bs) : key = keyJ bs := by
  rw [← textB_self key, keyJ, h.size]
  exact textB_congr fun p hp => h.bit p (by rw [h.size]; exact hp)
theorem IsKey.size_le {key : ByteArray} {bs : List Bool} (h : IsKey key bs) : key.size ≤ 32 := by have := h.few; have := h.size; omega
theorem IsKey.long {key : ByteArray} {bs : List Bool} (h : IsKey key bs) : bs.length ≤ 8 * key.size := by have := h.size; omega
theorem IsKey.at_ {key : ByteArray} {bs : List Bool} (h : IsKey key bs) (i : Nat) (hi : i < bs.length) : bs[i]? = some (decide (bitS key i = 1)) := by
  have k := h.bit i (by have := h.long; omega)
  rw [List.getElem?_eq_getElem hi]
  rw [List.getD_eq_getElem?_getD, List.getElem?_eq_getElem hi] at k
  congr 1
  simp only [Option.getD_some] at k
  cases e : bs[i] <;> rw [e] at k <;> simp at k <;> simp [k]
theorem IsKey.take {key : ByteArray} {bs : List Bool} (h : IsKey key bs) : (bitL key).take bs.length = bs := by
  apply List.ext_getElem?
  intro i
  rw [List.getElem?_take]
  by_cases c : i < bs.length
  · rw [if_pos c, h.at_ i c, bitL_at _ _ (by have := h.long; omega)]
  · rw [if_neg c, List.getElem?_eq_none (by omega)]
theorem IsKey.inj {a b : ByteArray} {bs : List Bool} (h : IsKey a bs) (k : IsKey b bs) : a = b := h.eq.trans k.eq.symm
theorem IsKey.bits {a : ByteArray} {bs cs : List Bool} (h : IsKey a bs) (k : IsKey a cs) (e : bs.length = cs.length) : bs = cs := by
  rw [← h.take, ← k.take, e]
/-- What is wrong with n bits of a key. -/
structure CheckJ (key : ByteArray) (n : Int) (r : Int) : Prop where
  ok : r = 0 → ∃ bs, IsKey key bs ∧ n = (bs.length : Int)
  bad : r ≠ 0 → ∀ bs, IsKey key bs → n ≠ (bs.length : Int)
  code : r = 0 ∨ ((r = 1 ∨ r = 3) ∧ (r = 1 ↔ (n < 0 ∨ 256 < n)))
theorem isKey_take {key : ByteArray} {n : Nat} (hn : n ≤ 256) (hs : key.size = (n + 7) / 8) (hz : ∀ i, n ≤ i → i < 8 * key.size → bitS key i = 0) : IsKey key ((bitL key).take n) ∧ ((bitL key).take n).length = n := by
  have e : ((bitL key).take n).length = n := by rw [List.length_take, bitL_length]; omega
  refine ⟨⟨by omega, by rw [e]; exact hs, fun i hi => ?_⟩, e⟩
  rw [List.getD_eq_getElem?_getD, List.getElem?_take]
  by_cases c : i < n
  · rw [if_pos c, bitL_at _ _ hi]
    exact (bit_toNat key i).symm
  · rw [if_neg c]
    exact hz i (by omega) hi
def zerosJ (key : ByteArray) (a b : Nat) : Bool := (List.range (b - a)).all fun j => bitS key (a + j) == 0
/-- The code: 0, or what is wrong. -/
def checkN (key : ByteArray) (n : Int) : Int := if n < 0 ∨ 256 < n then 1 else if key.size ≠ (n.toNat + 7) / 8 then 3 else if ∀ i, i < 8 * key.size → n.toNat ≤ i → bitS key i = 0 then 0 else 3
theorem checkN_is (key : ByteArray) (n : Int) : CheckJ key n (checkN key n) := by
  unfold checkN
  by_cases c1 : n < 0 ∨ 256 < n
  · rw [if_pos c1]
    exact ⟨fun e => by omega, fun _ bs h e => by have := h.few; omega, .inr ⟨.inl rfl, by simp [c1]⟩⟩
  · rw [if_neg c1]
    by_cases c2 : key.size ≠ (n.toNat + 7) / 8
    · rw [if_pos c2]
      exact ⟨fun e => by omega, fun _ bs h e => c2 (by rw [e]; exact h.size), .inr ⟨.inr rfl, by simp [c1]⟩⟩
    · rw [if_neg c2]
      by_cases c3 : ∀ i, i < 8 * key.size → n.toNat ≤ i → bitS key i = 0
      · rw [if_pos c3]
        obtain ⟨k1, k2⟩ := isKey_take (key := key) (n := n.toNat) (by omega) (by omega) (fun i h1 h2 => c3 i h2 h1)
        exact ⟨fun _ => ⟨_, k1, by rw [k2]; omega⟩, fun e => absurd rfl e, .inl rfl⟩
      · rw [if_neg c3]
        refine ⟨fun e => by omega, fun _ bs h e => c3 fun i h1 h2 => ?_, .inr ⟨.inr rfl, by simp [c1]⟩⟩
        rw [h.bit i h1, List.getD_eq_getElem?_getD, List.getElem?_eq_none (by omega)]
        rfl
theorem checkN_ok {key : ByteArray} {bs : List Bool} (h : IsKey key bs) : checkN key (bs.length : Int) = 0 := by
  by_cases e : checkN key (bs.length : Int) = 0
  · exact e
  · exact absurd rfl ((checkN_is key _).bad e bs h)
/-- One bit more. -/
theorem isKey_more {key T : ByteArray} {bs : List Bool} {b : Bool} (h : IsKey key bs) (hl : bs.length < 256) (hs : T.size = (bs.length + 8) / 8) (hb : ∀ i, i < 8 * T.size → bitS T i = if i = bs.length then b.toNat else if i < 8 * key.size then bitS key i else 0) : IsKey T (bs ++ [b]) := by
  refine ⟨by simp; omega, by simp; omega, fun i hi => ?_⟩
  rw [hb i hi, List.getD_eq_getElem?_getD, List.getElem?_append]
  by_cases c : i = bs.length
  · subst c
    simp
  · rw [if_neg c]
    by_cases c2 : i < 8 * key.size
    · rw [if_pos c2, h.bit i c2, List.getD_eq_getElem?_getD]
      by_cases c3 : i < bs.length
      · rw [if_pos c3]
      · rw [if_neg c3, List.getElem?_eq_none (by omega), List.getElem?_eq_none (by simp; omega)]
    · rw [if_neg c2, if_neg (by have := h.long; omega), List.getElem?_eq_none (by have := h.long; simp; omega)]
      rfl
theorem isKey_nil : IsKey ⟨#[]⟩ [] := ⟨by decide, rfl, fun i hi => absurd hi (Nat.not_lt_zero i)⟩
end Go.Proofs.Ytjnccpbedffijaa
