/- What the document's answer Text of layer 1 does. -/
import Derived.Test.YtjhfkmjaobleiaaRefK
import Derived.Lib.Hide
import Derived.Test.YtjhfkmjaobleiaaTexts
import Derived.Laws.BytesArg
import Derived.RegionTactic
import Derived.BigRegion
import Derived.Deep.RegionHeld3
namespace Go.Proofs.Ytjhfkmjaobleiaa
set_option linter.unusedVariables false
open Go.RowKit

/-- 16 noughts. -/
def zeros16 : Array Value := madeCells (Value.int .u8 0).cells 16
theorem zeros16_at (j : Nat) (h : j < 16) : zeros16[j]? = some (.int .u8 0) := by
  have : ∀ i : Fin 16, zeros16[i.val]? = some (.int .u8 0) := by
    intro i
    unfold zeros16
    have e : (Value.int IntKind.u8 0).cells = #[Value.int .u8 0] := rfl
    rw [e]
    have m : i.val % 1 = 0 := by omega
    simp [madeCells, m]
  exact this ⟨j, h⟩
theorem make16 (w : World) : (Instr.makeSlice 50 (.int .i64 16) (.int .i64 16)).run Try.prog w = .ok (.slice (some ⟨w.heap.size, 0, none⟩) 16 16) (w.alloc (.cells zeros16 5)) := by
  obtain ⟨i0, hi, hz0, hz1, hz2⟩ := info_parts info5
  have h := run_make (P := Try.prog) (w := w) 50 5 i0 (.int .u8 0) Try.underlying50 hi hz0 .i64 .i64 16 16 (by decide) (by decide) (by rw [hz2]; decide) (by decide)
  rw [hz1] at h
  exact h
theorem Row.made16 (w : World) : Row (w.alloc (.cells zeros16 5)) w.heap.size 16 (fun _ => 0) where
  cell j hj := by rw [World.cell?_alloc_new]; exact zeros16_at j hj
  free j := by simp [go_sem]

/-- The byte at place j, when k bits are there. -/
def partW (x : BitVec 128) (k j : Nat) : Int := ((x.toNat / 2 ^ (128 - (8 * j + min (k - 8 * j) 8)) % 2 ^ min (k - 8 * j) 8 : Nat) : Int)
theorem part_0 (x : BitVec 128) (j : Nat) : partW x 0 j = 0 := by unfold partW; simp [Nat.mod_one]
theorem part_all (x : BitVec 128) (j : Nat) (h : j < 16) : partW x 128 j = byteW x j := by
  unfold partW byteW
  have e : min (128 - 8 * j) 8 = 8 := by omega
  rw [e, show 128 - (8 * j + 8) = 8 * (15 - j) by omega]
theorem part_other (x : BitVec 128) (k j : Nat) (h : j ≠ k / 8) : partW x (k + 1) j = partW x k j := by
  unfold partW
  have e : min (k + 1 - 8 * j) 8 = min (k - 8 * j) 8 := by omega
  rw [e]
theorem part_step (x : BitVec 128) (k : Nat) (h : k < 128) : partW x (k + 1) (k / 8) = partW x k (k / 8) * 2 + bitW x k ∧ 0 ≤ partW x k (k / 8) ∧ partW x k (k / 8) ≤ 127 := by
  unfold partW bitW
  have e0 : min (k - 8 * (k / 8)) 8 = k % 8 := by omega
  have e1 : min (k + 1 - 8 * (k / 8)) 8 = k % 8 + 1 := by omega
  rw [e0, e1]
  have q0 : 128 - (8 * (k / 8) + k % 8) = (127 - k) + 1 := by omega
  have q1 : 128 - (8 * (k / 8) + (k % 8 + 1)) = 127 - k := by omega
  rw [q0, q1, Nat.pow_succ 2 (127 - k), ← Nat.div_div_eq_div_mul, show 2 ^ (k % 8 + 1) = 2 * 2 ^ (k % 8) by rw [Nat.pow_succ, Nat.mul_comm], Nat.mod_mul]
  generalize x.toNat / 2 ^ (127 - k) = Y
  have p : 2 ^ (k % 8) ≤ 2 ^ 7 := Nat.pow_le_pow_right (by decide) (by omega)
  have p0 : 0 < 2 ^ (k % 8) := Nat.two_pow_pos _
  have m := Nat.mod_lt (Y / 2) p0
  refine ⟨by omega, by omega, by omega⟩

set_option maxRecDepth 100000 in
set_option maxHeartbeats 4000000 in
theorem rtext_c {ah al : Int} {T : ByteArray} (x : BitVec 128) (hx : IsW ah al x) (hT : textW x = T) (w : World) :
    Calls Try.prog 44 #[.agg #[.int .u64 ah, .int .u64 al]] w fun e w' => e = .returned (.string T) ∧ Grown w w' := by
  have HT := Lib.hid hT
  clear hT
  have hmk := make16
  have G : Grown w (w.alloc (.cells #[.int .u64 ah, .int .u64 al] 24)) := (Grown.refl _).alloc _ _
  go_enter Try.func44, Try.ntmps44
  go_wp2_with (go_at_call 48; ((with_reducible refine (bits_c x hx _).mono ?_); rintro e w' ⟨⟨BA, rfl, hA0, hA1, RA⟩, g'⟩; have RO := Row.made16 w'; replace RA := RA.on ((Grown.refl w').alloc zeros16 5); replace G := (G.trans3 g').alloc zeros16 5; have hO := (G.2.2)))
  clear hmk
  have hO2 : w.heap.size ≤ w'.heap.size := by have := g'.2.2; simp only [World.size_alloc] at this; omega
  have hne : BA ≠ w'.heap.size := Nat.ne_of_lt hA1
  generalize (w'.alloc (.cells zeros16 5)) = V at *
  generalize w'.heap.size = O at *
  go_loopw [5] (fun i wr => ∃ k : Nat, k ≤ 128 ∧ i = .int .i64 (k : Int) ∧ Row wr BA 128 (bitW x) ∧ Row wr O 16 (partW x k) ∧ Grown w wr) (fun i _ => 128 - (intOf i).toNat)
  case atStart => exact ⟨0, by omega, by simp, RA, RO.congr (fun j hj => (part_0 x j).symm), G⟩
  case round =>
    obtain ⟨k, hk, rfl, QA, QO, hG⟩ := hrel
    by_cases hlt : k < 128
    · have hi : (k : Int) < 128 := by omega
      have hi0 : (0 : Int) ≤ (k : Int) := by omega
      have hj0 : (0 : Int) ≤ (k : Int) / 8 := by omega
      have hj1 : (k : Int) / 8 < 16 := by omega
      have d0 := QA.cell k hlt
      have d1 := QO.cell (k / 8) (by omega)
      have f1 := QO.free (k / 8)
      obtain ⟨e1, u0, u1⟩ := part_step x k hlt
      have b0 := bitW_01 x k
      obtain ⟨p, hp⟩ : ∃ p : Int, bitW x k = p := ⟨_, rfl⟩
      obtain ⟨u, hu⟩ : ∃ u : Int, partW x k (k / 8) = u := ⟨_, rfl⟩
      rw [hp] at d0 b0 e1
      rw [hu] at d1 u0 u1 e1
      obtain ⟨p0, p1⟩ := b0
      have E1 := Lib.hid e1
      have s1 : Hid (IntKind.u8.wrap (u * 2) = u * 2) := by show _ = _; rw [IntKind.wrap_u8]; omega
      have s2 : Hid (IntKind.u8.wrap (u * 2 + p) = u * 2 + p) := by show _ = _; rw [IntKind.wrap_u8]; omega
      clear e1 hp hu
      go_wp2
      have s1' := s1.out
      have s2' := s2.out
      go_region
      clear s1' s2'
      go_wp2
      go_roundw
      case rel =>
        refine ⟨k + 1, by omega, by go_num, (QA.other hne.symm).drew, (QO.put (by omega) (fun j hj => ?_)).drew, (hG.setCell hO2 _).drew⟩
        by_cases q : j = k / 8
        · subst q; rw [if_pos rfl, E1.out]
        · rw [if_neg q, part_other x k j q]
      case measure => simp [intOf]; omega
    · obtain rfl : k = 128 := by omega
      have hconv := run_convert_bytes_arg (P := Try.prog) wr 50 5 Try.underlying50 Try.underlying5 O 0 16 16 (bytesW x) rfl (fun i hi => by rw [Nat.zero_add, QO.cell i hi, part_all x i hi, getD_bytesW x i hi]) 9 Try.underlying9
      have hs : strOfNums (bytesW x) = T := HT.out
      rw [hs] at hconv
      clear hs
      go_wp2
      go_ret
      exact ⟨rfl, hG⟩

end Go.Proofs.Ytjhfkmjaobleiaa
