/- Texts out of parts of texts: a word in the middle, put in, taken for another. -/
import Derived.Test.YtlgahhehagffeaaSHelp
import Derived.Lib.Strings
namespace Go.Proofs.Ytlgahhehagffeaa
set_option linter.unusedVariables false
open Go.RowKit

theorem split2 (s : ByteArray) (M : Nat) (h : M + 1 < s.size) : s.data.toList = s.data.toList.take M ++ [s[M], s[M + 1]] ++ s.data.toList.drop (M + 2) := by
  have e1 := btake_snoc s M (by omega)
  have e2 := btake_snoc s (M + 1) h
  rw [e1] at e2
  have e3 : s.data.toList.take M ++ [s[M], s[M + 1]] = s.data.toList.take (M + 2) := by rw [e2]; simp
  rw [e3, List.take_append_drop]
theorem glue (s X : ByteArray) (M N : Nat) (h : M ≤ s.size) : ((s.extract 0 M ++ X) ++ s.extract N s.size).data.toList = s.data.toList.take M ++ X.data.toList ++ s.data.toList.drop N := by
  rw [ByteArray.data_append, Array.toList_append, ByteArray.data_append, Array.toList_append, Lib.extract_data, Lib.extract_data, List.drop_zero, Nat.sub_zero]
  congr 1
  rw [List.take_of_length_le (by simp)]
theorem glue_size (s X : ByteArray) (M N : Nat) (h : M ≤ s.size) (hN : N ≤ s.size) : ((s.extract 0 M ++ X) ++ s.extract N s.size).size = M + X.size + (s.size - N) := by
  rw [ByteArray.size_append, ByteArray.size_append]; simp; omega
theorem word_or (a b : Nat) (ha : a < 256) (hb : b < 256) : bits .or .u16 (IntKind.u16.wrap ((a : Int) * 256)) (b : Int) = ((a * 256 + b : Nat) : Int) := by
  have e1 : IntKind.u16.wrap ((a : Int) * 256) = ((a * 256 : Nat) : Int) := by rw [IntKind.wrap_u16]; omega
  rw [e1, or_u16 _ _ (by omega) (by omega)]
  have e3 : a * 256 = a * 2 ^ 8 := by omega
  rw [e3, ← Nat.shiftLeft_eq, ← Nat.shiftLeft_add_eq_or_of_lt (show b < 2 ^ 8 by omega)]
theorem twoS_size (n : Nat) : (twoS n).size = 2 := by unfold twoS; rw [strOfNums_size]; rfl

/-- A place of a word within a text of n bytes. -/
def wordI (n : Nat) (k : Int) : Int := 2 * wrap64 ((IntKind.u64.wrap k).tmod ((n : Int) / 2))
theorem word_ex (n : Nat) (k : Int) (hn : n < 1152921504606846976) (h2 : 2 ≤ n) : ∃ P : Nat, 2 * wrap64 ((IntKind.u64.wrap k).tmod ((n : Int) / 2)) = (P : Int) ∧ P % 2 = 0 ∧ P + 1 < n := by
  have u0 : 0 ≤ IntKind.u64.wrap k := by rw [IntKind.wrap_u64]; omega
  rw [Int.tmod_eq_emod_of_nonneg u0]
  have v0 := Int.emod_nonneg (IntKind.u64.wrap k) (show (n : Int) / 2 ≠ 0 by omega)
  have v1 := Int.emod_lt_of_pos (IntKind.u64.wrap k) (show (0 : Int) < (n : Int) / 2 by omega)
  generalize IntKind.u64.wrap k % ((n : Int) / 2) = V at *
  have e1 : wrap64 V = V := by unfold wrap64; omega
  rw [e1]
  exact ⟨(2 * V).toNat, by omega, by omega, by omega⟩

theorem upd_text (s X : ByteArray) (M w : Nat) (hM : M % 2 = 0) (h : M + 1 < s.size) (hw : w < 65536) (hX : twoS w = X) (hz : ∃ e ∈ ((s.extract 0 M ++ X) ++ s.extract (M + 2) s.size).data.toList, e ≠ 0) :
    65535 - oc (oc (65535 - (65535 - sumS s.data.toList)) (65535 - (s[M].toNat * 256 + s[M + 1].toNat))) w = 65535 - sumS ((s.extract 0 M ++ X) ++ s.extract (M + 2) s.size).data.toList := by
  obtain ⟨c, d, hcd, hv⟩ := twoS_data w hw
  rw [hX] at hcd
  have hT := glue s X M (M + 2) (by omega)
  rw [hcd] at hT
  have hA : (s.data.toList.take M).length % 2 = 0 := by rw [List.length_take]; simp; omega
  rw [hT] at hz ⊢
  have e := update_is (s.data.toList.take M) (s.data.toList.drop (M + 2)) s[M] s[M + 1] c d hA hz
  rw [← split2 s M h, hv] at e
  exact e
theorem good_text (s X : ByteArray) (P : Nat) (hP : P % 2 = 0) (h : P ≤ s.size) {C : Nat} (hC : 65535 - sumS s.data.toList = C) (hX : twoS C = X) : sumS ((s.extract 0 P ++ X) ++ s.extract P s.size).data.toList = 65535 := by
  have l := sumS_lt s.data.toList
  obtain ⟨c, d, hcd, hv⟩ := twoS_data C (by omega)
  rw [hX] at hcd
  rw [glue s X P P h, hcd]
  refine good_made _ _ c d (by rw [List.length_take]; simp; omega) ?_
  rw [List.take_append_drop, hv, hC]
theorem bad_text (t X : ByteArray) (M w : Nat) (hM : M % 2 = 0) (h : M + 1 < t.size) (hw : w < 65536) (hX : twoS w = X) (hg : sumS t.data.toList = 65535) (hne : (t[M].toNat * 256 + t[M + 1].toNat) % 65535 ≠ w % 65535) : sumS ((t.extract 0 M ++ X) ++ t.extract (M + 2) t.size).data.toList ≠ 65535 := by
  obtain ⟨c, d, hcd, hv⟩ := twoS_data w hw
  rw [hX] at hcd
  rw [glue t X M (M + 2) (by omega), hcd]
  rw [split2 t M h] at hg
  exact good_broken _ _ _ _ c d (by rw [List.length_take]; simp; omega) hg (by rw [hv]; exact hne)

end Go.Proofs.Ytlgahhehagffeaa
