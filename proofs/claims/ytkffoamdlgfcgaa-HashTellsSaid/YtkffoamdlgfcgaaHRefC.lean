/- What the document's answer Back of layer 4 does. -/
import Derived.Test.YtkffoamdlgfcgaaHRefB
namespace Go.Proofs.Ytkffoamdlgfcgaa
set_option linter.unusedVariables false
open Go.RowKit

theorem back13_b (x : BitVec 32) {c m d : Nat} (hc : x.toNat = c) (hm : (x ^^^ (x >>> 13)).toNat = m) (hd : (back13 x).toNat = d) :
    bits .xor .u32 (c : Int) ((c : Int) / 8192) = (m : Int) ∧ bits .xor .u32 (m : Int) ((c : Int) / 67108864) = (d : Int) := by
  constructor
  · exact fold_b x 13 hc hm
  · have e : (c : Int) / 67108864 = ((x >>> 26).toNat : Int) := by rw [shr_b, hc]
    have e2 : bits .xor .u32 (m : Int) ((x >>> 26).toNat : Int) = (d : Int) := by
      rw [← hm, xor_b, ← hd]; rfl
    rw [← e] at e2
    exact e2

theorem inverse_i (n : Nat) (N R : Int) {r : Nat} (hN : N = (n : Int)) (hR : R = (r : Int)) (hn : n < 4294967296) (hr : invX n 31 = r) (w : World) :
    Calls Try.prog 22 #[.int .u32 N] w fun e w' => e = .returned (.int .u32 R) ∧ w' = w := by
  rw [hN, hR]; exact inverse_c n hn hr w
theorem inverse_za (w : World) :
    Calls Try.prog 22 #[.int .u32 3266489909] w fun e w' => e = .returned (.int .u32 2127672349) ∧ w' = w :=
  inverse_i 3266489909 3266489909 2127672349 (by omega) (by omega) (by decide) inv_a w
theorem inverse_zb (w : World) :
    Calls Try.prog 22 #[.int .u32 2246822507] w fun e w' => e = .returned (.int .u32 2781581891) ∧ w' = w :=
  inverse_i 2246822507 2246822507 2781581891 (by omega) (by omega) (by decide) inv_b w

set_option maxHeartbeats 1000000 in
theorem rback_c (x : BitVec 32) {a r : Nat} (ha : x.toNat = a) (hr : (backH x).toNat = r) (w : World) :
    Calls Try.prog 17 #[.int .u32 (a : Int)] w fun e w' => e = .returned (.int .u32 (r : Int)) ∧ w' = w := by
  have la : a < 4294967296 := by rw [← ha]; exact lt32 x
  obtain ⟨b, hb⟩ : ∃ b, (fold16 x).toNat = b := ⟨_, rfl⟩
  obtain ⟨c, hc⟩ : ∃ c, (fold16 x * 0x7ED1B41D#32).toNat = c := ⟨_, rfl⟩
  obtain ⟨m, hm⟩ : ∃ m, ((fold16 x * 0x7ED1B41D#32) ^^^ ((fold16 x * 0x7ED1B41D#32) >>> 13)).toNat = m := ⟨_, rfl⟩
  obtain ⟨d, hd⟩ : ∃ d, (back13 (fold16 x * 0x7ED1B41D#32)).toNat = d := ⟨_, rfl⟩
  obtain ⟨e, he⟩ : ∃ e, (back13 (fold16 x * 0x7ED1B41D#32) * 0xA5CB9243#32).toNat = e := ⟨_, rfl⟩
  have f1 : bits .xor .u32 (a : Int) ((a : Int) / 65536) = (b : Int) := fold_b x 16 ha hb
  have m1 := mul_b (fold16 x) 0x7ED1B41D#32
  rw [hb, hc] at m1
  obtain ⟨f2, f2b⟩ := back13_b _ hc hm hd
  have m2 := mul_b (back13 (fold16 x * 0x7ED1B41D#32)) 0xA5CB9243#32
  rw [hd, he] at m2
  have f3 : bits .xor .u32 (e : Int) ((e : Int) / 65536) = (r : Int) := fold_b _ 16 he hr
  have n1 : IntKind.u32.wrap ((b : Int) * 2127672349) = (c : Int) := m1
  have n2 : IntKind.u32.wrap ((d : Int) * 2781581891) = (e : Int) := m2
  have n3 : (b : Int) * 2127672349 % 4294967296 = (c : Int) := by rw [← IntKind.wrap_u32]; exact n1
  have n4 : (d : Int) * 2781581891 % 4294967296 = (e : Int) := by rw [← IntKind.wrap_u32]; exact n2
  have lb : b < 4294967296 := by rw [← hb]; exact lt32 _
  have lc : c < 4294967296 := by rw [← hc]; exact lt32 _
  have lm : m < 4294967296 := by rw [← hm]; exact lt32 _
  have ld : d < 4294967296 := by rw [← hd]; exact lt32 _
  have le : e < 4294967296 := by rw [← he]; exact lt32 _
  clear ha hr hb hc hm hd he m1 m2
  go_enter Try.func17, Try.ntmps17
  go_wp2_with (go_at_call 22; ((first | with_reducible refine (inverse_za _).mono ?_ | with_reducible refine (inverse_zb _).mono ?_); rintro e w2 ⟨rfl, rfl⟩))
  go_ret
  exact ⟨rfl, rfl⟩

end Go.Proofs.Ytkffoamdlgfcgaa
