/- What awake of the statements of package hash answers: true: the examples are as they are told. It asks the contracts of HCode alone. -/
import Derived.Test.YtkffoamdlgfcgaaHCode
namespace Go.Proofs.Ytkffoamdlgfcgaa
set_option linter.unusedVariables false
open Go.RowKit

theorem hof_l (l : List ByteArray) (n : Nat) (C : Array Value) {r : Nat} (hn : l.length = n) (hC : C = (l.map Value.string).toArray) (hl : n < 1000000) (hs : (joinL l).size < 1000000) (hr : (textsH l).toNat = r) (W : World) :
    Calls Try.prog 12 #[.slice (some ⟨W.heap.size, 0, none⟩) n n] (W.alloc (.cells C 9)) fun e w' => e = .returned (.int .u32 (r : Int)) ∧ Wider W w' :=
  (hof_c _ n n l _ (StrsAt.new W l 9 C hC) hn hl hs hr).mono fun _ _ h => ⟨h.1, ((Wider.refl W).alloc _).trans h.2⟩
theorem hmore_i (a : Nat) (s : ByteArray) (A R : Int) {r : Nat} (hs : s.size < 1000000) (hA : A = (a : Int)) (hR : R = (r : Int)) (hr : a < 4294967296 ∧ (moreH (BitVec.ofNat 32 a) s.data.toList).toNat = r) (w : World) :
    Calls Try.prog 18 #[.int .u32 A, .string s] w fun e w' => e = .returned (.int .u32 R) ∧ Wider w w' := by
  rw [hA, hR]; exact hmore_c (BitVec.ofNat 32 a) s hs (by rw [BitVec.toNat_ofNat]; exact Nat.mod_eq_of_lt hr.1) hr.2 w
theorem hmix_i (a : Nat) (A R : Int) {r : Nat} (hA : A = (a : Int)) (hR : R = (r : Int)) (hr : a < 4294967296 ∧ (mixH (BitVec.ofNat 32 a)).toNat = r) (w : World) :
    Calls Try.prog 14 #[.int .u32 A] w fun e w' => e = .returned (.int .u32 R) ∧ Wider w w' := by
  rw [hA, hR]; exact hmix_c (BitVec.ofNat 32 a) (by rw [BitVec.toNat_ofNat]; exact Nat.mod_eq_of_lt hr.1) hr.2 w
theorem hback_i (a : Nat) (A R : Int) {r : Nat} (hA : A = (a : Int)) (hR : R = (r : Int)) (hr : a < 4294967296 ∧ (backH (BitVec.ofNat 32 a)).toNat = r) (w : World) :
    Calls Try.prog 16 #[.int .u32 A] w fun e w' => e = .returned (.int .u32 R) ∧ Wider w w' := by
  rw [hA, hR]; exact hback_c (BitVec.ofNat 32 a) (by rw [BitVec.toNat_ofNat]; exact Nat.mod_eq_of_lt hr.1) hr.2 w
theorem hslot_i (h : Nat) (A n R : Int) {r : Nat} (hA : A = (h : Int)) (hR : R = (r : Int)) (hh : h < 4294967296) (n0 : -9223372036854775808 ≤ n) (n1 : n ≤ 9223372036854775807) (hr : (if n < 1 then 0 else slotN h n.toNat) = r) (w : World) :
    Calls Try.prog 20 #[.int .u32 A, .int .i64 n] w fun e w' => e = .returned (.int .i64 R) ∧ Wider w w' := by
  rw [hA, hR]; exact hslot_c h n hh n0 n1 hr w

theorem ha0 (w : World) : Calls Try.prog 12 #[.slice none 0 0] w fun e w' => e = .returned (.int .u32 2166136261) ∧ Wider w w' :=
  hof_c none 0 0 [] w (StrsAt.nil w) rfl (by decide) (by decide) (r := 2166136261) (by decide +kernel)
theorem ha1 (W : World) : Calls Try.prog 12 #[.slice (some ⟨W.heap.size, 0, none⟩) 1 1] (W.alloc (.cells #[.string ⟨#[97]⟩] 9)) fun e w' => e = .returned (.int .u32 3826002220) ∧ Wider W w' :=
  hof_l [⟨#[97]⟩] 1 _ (r := 3826002220) rfl rfl (by decide) (by decide) (by decide +kernel) W
theorem ha2 (W : World) : Calls Try.prog 12 #[.slice (some ⟨W.heap.size, 0, none⟩) 1 1] (W.alloc (.cells #[.string ⟨#[102, 111, 111, 98, 97, 114]⟩] 9)) fun e w' => e = .returned (.int .u32 3214735720) ∧ Wider W w' :=
  hof_l [⟨#[102, 111, 111, 98, 97, 114]⟩] 1 _ (r := 3214735720) rfl rfl (by decide) (by decide) (by decide +kernel) W
theorem ha3 (w : World) : Calls Try.prog 14 #[.int .u32 0] w fun e w' => e = .returned (.int .u32 0) ∧ Wider w w' :=
  hmix_i 0 0 0 (r := 0) (by omega) (by omega) (by decide +kernel) w
theorem ha4 (w : World) : Calls Try.prog 20 #[.int .u32 2147483648, .int .i64 (10)] w fun e w' => e = .returned (.int .i64 5) ∧ Wider w w' :=
  hslot_i 2147483648 2147483648 (10) 5 (r := 5) (by omega) (by omega) (by decide) (by decide) (by decide) (by decide) w
theorem ha5 (w : World) : Calls Try.prog 20 #[.int .u32 4294967295, .int .i64 (10)] w fun e w' => e = .returned (.int .i64 9) ∧ Wider w w' :=
  hslot_i 4294967295 4294967295 (10) 9 (r := 9) (by omega) (by omega) (by decide) (by decide) (by decide) (by decide) w

set_option maxHeartbeats 1000000 in
theorem awake4_c (w : World) :
    Calls Try.prog 11 #[] w fun e w' => e = .returned (.bool true) ∧ Wider w w' := by
  have G : Hid (Wider w w) := Wider.refl w
  go_enter Try.func11, Try.ntmps11
  go_wp2_with (first
    | (go_at_call 12; ((with_reducible refine (ha0 _).mono ?_); rintro e w1 ⟨rfl, g⟩; replace G := htrans G g; clear g))
    | (go_at_call 12; ((with_reducible refine (ha1 _).mono ?_); rintro e w1 ⟨rfl, g⟩; replace G := htrans G g; clear g))
    | (go_at_call 12; ((with_reducible refine (ha2 _).mono ?_); rintro e w1 ⟨rfl, g⟩; replace G := htrans G g; clear g))
    | (go_at_call 14; ((with_reducible refine (ha3 _).mono ?_); rintro e w1 ⟨rfl, g⟩; replace G := htrans G g; clear g))
    | (go_at_call 20; ((with_reducible refine (ha4 _).mono ?_); rintro e w1 ⟨rfl, g⟩; replace G := htrans G g; clear g))
    | (go_at_call 20; ((with_reducible refine (ha5 _).mono ?_); rintro e w1 ⟨rfl, g⟩; replace G := htrans G g; clear g)))
  go_ret
  exact ⟨rfl, G.out⟩

end Go.Proofs.Ytkffoamdlgfcgaa
