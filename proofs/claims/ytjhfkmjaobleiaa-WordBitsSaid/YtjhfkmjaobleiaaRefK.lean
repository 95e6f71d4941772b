/- What is common to the document's answers of layer 1 that go bit by bit: what such a loop keeps. -/
import Derived.Test.YtjhfkmjaobleiaaRefW
import Derived.Test.YtjhfkmjaobleiaaFrame
import Derived.Deep.RegionHeld3
namespace Go.Proofs.Ytjhfkmjaobleiaa
set_option linter.unusedVariables false
open Go.RowKit

/-- Where such a loop stands: the bits of two words, the row that it fills, the cells of its result. -/
structure Lx (w : World) (R BA BB O : Nat) (x y : BitVec 128) (out : Nat → Int) (wr : World) : Prop where
  ra : Row wr BA 128 (bitW x)
  rb : Row wr BB 128 (bitW y)
  ro : Row wr O 128 out
  r0 : wr.cell? ⟨R, 0, none⟩ = some (.int .u64 0)
  r1 : wr.cell? ⟨R, 1, none⟩ = some (.int .u64 0)
  s0 : wr.frozen? ⟨R, 0, none⟩ = false
  s1 : wr.frozen? ⟨R, 1, none⟩ = false
  grown : Grown w wr
  nA : BA ≠ O
  nB : BB ≠ O
  nR : R ≠ O
  hO : w.heap.size ≤ O
  hR : w.heap.size ≤ R
  lt : O < wr.heap.size
theorem Lx.put {w wr : World} {R BA BB O k : Nat} {x y : BitVec 128} {out out' : Nat → Int} {v : Int} (h : Lx w R BA BB O x y out wr) (hk : k < 128) (e : ∀ j, j < 128 → out' j = if j = k then v else out j) :
    Lx w R BA BB O x y out' (wr.setCell ⟨O, k, none⟩ (.int .u8 v)) where
  ra := h.ra.other h.nA.symm
  rb := h.rb.other h.nB.symm
  ro := h.ro.put hk e
  r0 := by rw [cother (by intro r; injection r with r1; exact h.nR r1.symm)]; exact h.r0
  r1 := by rw [cother (by intro r; injection r with r1; exact h.nR r1.symm)]; exact h.r1
  s0 := (World.frozen?_setCell _ _ _ _).trans h.s0
  s1 := (World.frozen?_setCell _ _ _ _).trans h.s1
  grown := h.grown.setCell h.hO _
  nA := h.nA
  nB := h.nB
  nR := h.nR
  hO := h.hO
  hR := h.hR
  lt := by simpa [World.setCell] using h.lt
theorem Lx.drew {w wr : World} {R BA BB O : Nat} {x y : BitVec 128} {out : Nat → Int} (h : Lx w R BA BB O x y out wr) : Lx w R BA BB O x y out wr.drew :=
  ⟨h.ra.drew, h.rb.drew, h.ro.drew, h.r0, h.r1, h.s0, h.s1, h.grown.drew, h.nA, h.nB, h.nR, h.hO, h.hR, h.lt⟩
theorem Lx.congr {w wr : World} {R BA BB O : Nat} {x y : BitVec 128} {out out' : Nat → Int} (h : Lx w R BA BB O x y out wr) (e : ∀ j, j < 128 → out j = out' j) : Lx w R BA BB O x y out' wr :=
  { h with ro := h.ro.congr e }
/-- The start: the row of noughts is made in w1. -/
theorem Lx.start {w w1 : World} {R BA BB : Nat} {x y : BitVec 128} (ra : Row w1 BA 128 (bitW x)) (rb : Row w1 BB 128 (bitW y)) (hA : BA < w1.heap.size) (hB : BB < w1.heap.size)
    (r0 : w1.cell? ⟨R, 0, none⟩ = some (.int .u64 0)) (r1 : w1.cell? ⟨R, 1, none⟩ = some (.int .u64 0)) (s0 : w1.frozen? ⟨R, 0, none⟩ = false) (s1 : w1.frozen? ⟨R, 1, none⟩ = false)
    (g : Grown w w1) (hR : w.heap.size ≤ R) : Lx w R BA BB w1.heap.size x y (fun _ => 0) (w1.alloc (.cells zeros128 5)) where
  ra := ra.alloc
  rb := rb.alloc
  ro := Row.made w1
  r0 := kalloc r0
  r1 := kalloc r1
  s0 := (frozen?_alloc_cells _ _ _ _).trans s0
  s1 := (frozen?_alloc_cells _ _ _ _).trans s1
  grown := g.alloc _ _
  nA := Nat.ne_of_lt hA
  nB := Nat.ne_of_lt hB
  nR := Nat.ne_of_lt (World.block_lt_of_cell? _ _ r0)
  hO := g.2.2
  hR := hR
  lt := by simp

theorem bitW_01 (x : BitVec 128) (j : Nat) : 0 ≤ bitW x j ∧ bitW x j ≤ 1 := by unfold bitW; omega
theorem bitW_at (x : BitVec 128) (k : Nat) (h : k < 128) : bitW x (127 - k) = ((x.toNat / 2 ^ k % 2 : Nat) : Int) := by
  unfold bitW; rw [show 127 - (127 - k) = k by omega]
theorem bitW_lsb (x : BitVec 128) (j : Nat) (h : j < 128) : bitW x j = if x.getLsbD (127 - j) then 1 else 0 := by
  unfold bitW
  rw [BitVec.getLsbD, Nat.testBit, Nat.shiftRight_eq_div_pow]
  have e : (1 &&& x.toNat / 2 ^ (127 - j)) = x.toNat / 2 ^ (127 - j) % 2 := by rw [Nat.and_comm, Nat.and_one_is_mod]
  rw [e]
  rcases Nat.mod_two_eq_zero_or_one (x.toNat / 2 ^ (127 - j)) with q | q <;> rw [q] <;> rfl

/-! ### Digit by digit -/
def carry (X Y k : Nat) : Nat := (X % 2 ^ k + Y % 2 ^ k) / 2 ^ k
theorem carry_0 (X Y : Nat) : carry X Y 0 = 0 := by unfold carry; simp [Nat.mod_one]
theorem carry_le (X Y k : Nat) : carry X Y k ≤ 1 := by
  unfold carry
  have p : 0 < 2 ^ k := Nat.two_pow_pos k
  have a := Nat.mod_lt X p
  have b := Nat.mod_lt Y p
  have : (X % 2 ^ k + Y % 2 ^ k) / 2 ^ k < 2 := by rw [Nat.div_lt_iff_lt_mul p]; omega
  omega
theorem carry_step (X Y k : Nat) : (X + Y) / 2 ^ k % 2 = (X / 2 ^ k % 2 + Y / 2 ^ k % 2 + carry X Y k) % 2 ∧ carry X Y (k + 1) = (X / 2 ^ k % 2 + Y / 2 ^ k % 2 + carry X Y k) / 2 := by
  have p : 0 < 2 ^ k := Nat.two_pow_pos k
  constructor
  · have e : X + Y = (X % 2 ^ k + Y % 2 ^ k) + 2 ^ k * (X / 2 ^ k + Y / 2 ^ k) := by
      have a := Nat.mod_add_div X (2 ^ k)
      have b := Nat.mod_add_div Y (2 ^ k)
      rw [Nat.mul_add]; omega
    have d : (X + Y) / 2 ^ k = carry X Y k + (X / 2 ^ k + Y / 2 ^ k) := by
      rw [e, Nat.add_mul_div_left _ _ p]; rfl
    rw [d]; omega
  · unfold carry
    rw [Nat.mod_pow_succ, Nat.mod_pow_succ, Nat.pow_succ, ← Nat.div_div_eq_div_mul]
    have e : X % 2 ^ k + 2 ^ k * (X / 2 ^ k % 2) + (Y % 2 ^ k + 2 ^ k * (Y / 2 ^ k % 2)) = (X % 2 ^ k + Y % 2 ^ k) + 2 ^ k * (X / 2 ^ k % 2 + Y / 2 ^ k % 2) := by
      rw [Nat.mul_add]; omega
    rw [e, Nat.add_mul_div_left _ _ p]
    congr 1
    omega
theorem add_digit (x y : BitVec 128) (k : Nat) (h : k < 128) : bitW (x + y) (127 - k) = (bitW x (127 - k) + bitW y (127 - k) + (carry x.toNat y.toNat k : Int)) % 2 ∧
    (carry x.toNat y.toNat (k + 1) : Int) = (bitW x (127 - k) + bitW y (127 - k) + (carry x.toNat y.toNat k : Int)) / 2 := by
  obtain ⟨c1, c2⟩ := carry_step x.toNat y.toNat k
  rw [bitW_at _ k h, bitW_at _ k h, bitW_at _ k h, c2]
  have e : (x + y).toNat / 2 ^ k % 2 = (x.toNat + y.toNat) / 2 ^ k % 2 := by
    rw [BitVec.toNat_add]
    have q : (2 : Nat) ^ 128 = 2 ^ k * (2 * 2 ^ (127 - k)) := by
      rw [← Nat.pow_succ', ← Nat.pow_add]; congr 1; omega
    rw [q, Nat.mod_mul_right_div_self, Nat.mod_mul_right_mod]
  rw [e, c1]
  constructor <;> omega

end Go.Proofs.Ytjhfkmjaobleiaa
