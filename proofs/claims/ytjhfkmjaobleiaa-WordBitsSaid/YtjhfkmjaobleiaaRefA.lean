/- What the document's answers Bits and Word of layer 1 do: the bits of a word, and a word of bits. -/
import Derived.Test.YtjhfkmjaobleiaaBits
import Derived.Test.YtjhfkmjaobleiaaTexts
import Derived.LoopTactic
namespace Go.Proofs.Ytjhfkmjaobleiaa
set_option linter.unusedVariables false
open Go.RowKit

/-- 128 noughts. -/
def zeros128 : Array Value := madeCells (Value.int .u8 0).cells 128
theorem zeros128_at (j : Nat) (h : j < 128) : zeros128[j]? = some (.int .u8 0) := by
  have : ∀ i : Fin 128, zeros128[i.val]? = some (.int .u8 0) := by
    intro i
    unfold zeros128
    have e : (Value.int IntKind.u8 0).cells = #[Value.int .u8 0] := rfl
    rw [e]
    have m : i.val % 1 = 0 := by omega
    simp [madeCells, m]
  exact this ⟨j, h⟩
theorem info5 : (Try.prog.info? 5).map (fun i => (i.zero, i.size, i.bytes)) = some (some (.int .u8 0), 1, 1) := by kernel_rfl
theorem make128 (w : World) : (Instr.makeSlice 50 (.int .i64 128) (.int .i64 128)).run Try.prog w = .ok (.slice (some ⟨w.heap.size, 0, none⟩) 128 128) (w.alloc (.cells zeros128 5)) := by
  obtain ⟨i0, hi, hz0, hz1, hz2⟩ := info_parts info5
  have h := run_make (P := Try.prog) (w := w) 50 5 i0 (.int .u8 0) Try.underlying50 hi hz0 .i64 .i64 128 128 (by decide) (by decide) (by rw [hz2]; decide) (by decide)
  rw [hz1] at h
  exact h

/-- A row of n bytes of the call's own. -/
structure Row (w : World) (B n : Nat) (v : Nat → Int) : Prop where
  cell : ∀ j, j < n → w.cell? ⟨B, j, none⟩ = some (.int .u8 (v j))
  free : ∀ j, w.frozen? ⟨B, j, none⟩ = false
theorem Row.on {w w' : World} {B n : Nat} {v : Nat → Int} (h : Row w B n v) (g : Grown w w') : Row w' B n v := ⟨fun j hj => gkeep g (h.cell j hj), fun j => gfree g (h.free j)⟩
theorem Row.congr {w : World} {B n : Nat} {v u : Nat → Int} (h : Row w B n v) (e : ∀ j, j < n → v j = u j) : Row w B n u := ⟨fun j hj => by rw [h.cell j hj, e j hj], h.free⟩
theorem Row.put {w : World} {B n : Nat} {v u : Nat → Int} {k : Nat} {y : Int} (h : Row w B n v) (hk : k < n) (e : ∀ j, j < n → u j = if j = k then y else v j) : Row (w.setCell ⟨B, k, none⟩ (.int .u8 y)) B n u where
  cell j hj := by
    rw [e j hj]
    by_cases q : j = k
    · subst q; rw [if_pos rfl]; exact csame (h.cell j hj)
    · rw [if_neg q, cother (by intro r; injection r; omega)]; exact h.cell j hj
  free j := (World.frozen?_setCell _ _ _ _).trans (h.free j)
theorem Row.other {w : World} {B C n k : Nat} {v : Nat → Int} {y : Value} (h : Row w B n v) (ne : C ≠ B) : Row (w.setCell ⟨C, k, none⟩ y) B n v where
  cell j hj := by rw [cother (by intro r; injection r with r1; exact ne r1)]; exact h.cell j hj
  free j := (World.frozen?_setCell _ _ _ _).trans (h.free j)
theorem Row.alloc {w : World} {B n : Nat} {v : Nat → Int} {c : Array Value} {t : TypeId} (h : Row w B n v) : Row (w.alloc (.cells c t)) B n v := h.on ((Grown.refl w).alloc c t)
theorem Row.drew {w : World} {B n : Nat} {v : Nat → Int} (h : Row w B n v) : Row w.drew B n v := ⟨h.cell, h.free⟩
theorem Row.made (w : World) : Row (w.alloc (.cells zeros128 5)) w.heap.size 128 (fun _ => 0) where
  cell j hj := by rw [World.cell?_alloc_new]; exact zeros128_at j hj
  free j := by simp [go_sem]

/-- The bit at place j of a word, the highest first. -/
def bitW (x : BitVec 128) (j : Nat) : Int := ((x.toNat / 2 ^ (127 - j) % 2 : Nat) : Int)
theorem bitW_hi {h l : Int} {x : BitVec 128} (k : IsW h l x) (i : Nat) (hi : i < 64) : h / 2 ^ i % 2 = bitW x (63 - i) := by
  rw [k.h]; unfold bitW
  show ((x.toNat / 18446744073709551616 : Nat) : Int) / 2 ^ i % 2 = _
  have e : 2 ^ (127 - (63 - i)) = 18446744073709551616 * 2 ^ i := by
    rw [show 127 - (63 - i) = 64 + i by omega, Nat.pow_add]
  rw [e, ← Nat.div_div_eq_div_mul]
  have c : (((x.toNat / 18446744073709551616 : Nat) : Int) / 2 ^ i) = ((x.toNat / 18446744073709551616 / 2 ^ i : Nat) : Int) := by simp
  rw [c]; omega
theorem bitW_lo {h l : Int} {x : BitVec 128} (k : IsW h l x) (i : Nat) (hi : i < 64) : l / 2 ^ i % 2 = bitW x (127 - i) := by
  rw [k.l]; unfold bitW
  show ((x.toNat % 18446744073709551616 : Nat) : Int) / 2 ^ i % 2 = _
  rw [show 127 - (127 - i) = i by omega]
  have c : (((x.toNat % 18446744073709551616 : Nat) : Int) / 2 ^ i) = ((x.toNat % 18446744073709551616 / 2 ^ i : Nat) : Int) := by simp
  rw [c]
  have d : x.toNat % 18446744073709551616 / 2 ^ i % 2 = x.toNat / 2 ^ i % 2 := by
    have p : 2 ^ i * 2 ^ (64 - i) = 18446744073709551616 := two_pows i (by omega)
    have q : x.toNat % 18446744073709551616 = x.toNat % (2 ^ i * 2 ^ (64 - i)) := by rw [p]
    rw [q, Nat.mod_mul_right_div_self]
    have r : 2 ^ (64 - i) = 2 * 2 ^ (63 - i) := by rw [show 64 - i = (63 - i) + 1 by omega, Nat.pow_succ, Nat.mul_comm]
    rw [r, Nat.mod_mul_right_mod]
  omega

theorem bit_of {a : Int} {i : Nat} {y : Int} (h0 : 0 ≤ a) (h : a / 2 ^ i % 2 = y) : (a / 2 ^ i).tmod 2 % 256 = y := by
  have p : 0 ≤ a / 2 ^ i := Int.ediv_nonneg h0 (Int.le_of_lt (Int.pow_pos (by decide)))
  rw [Int.tmod_eq_emod_of_nonneg p]; omega

structure BitsPost (w : World) (x : BitVec 128) (e : Ending) (w' : World) : Prop where
  ex : ∃ B, e = .returned (.slice (some ⟨B, 0, none⟩) 128 128) ∧ w.heap.size ≤ B ∧ B < w'.heap.size ∧ Row w' B 128 (bitW x)
  grown : Grown w w'

set_option maxHeartbeats 1000000 in
theorem bits_c {ah al : Int} (x : BitVec 128) (hx : IsW ah al x) (w : World) :
    Calls Try.prog 48 #[.agg #[.int .u64 ah, .int .u64 al]] w (BitsPost w x) := by
  have hmk := make128
  have a1 := hx.h0; have a2 := hx.h1; have a3 := hx.l0; have a4 := hx.l1
  go_enter Try.func48, Try.ntmps48
  go_wp2
  clear hmk
  go_loopw [4] (fun i wr => ∃ k : Nat, k ≤ 64 ∧ i = .int .i64 k ∧ wr.cell? ⟨w.heap.size, 0, none⟩ = some (.int .u64 ah) ∧ wr.cell? ⟨w.heap.size, 1, none⟩ = some (.int .u64 al) ∧
      Row wr (w.heap.size + 1) 128 (fun j => if (j < 64 ∧ 64 ≤ j + k) ∨ (64 ≤ j ∧ 128 ≤ j + k) then bitW x j else 0) ∧ Grown w wr ∧ w.heap.size + 1 < wr.heap.size) (fun i _ => 64 - (intOf i).toNat)
  case atStart =>
    refine ⟨0, by omega, rfl, by simp [go_sem], by simp [go_sem], ?_, (((Grown.refl _).alloc _ _).alloc _ _), by simp⟩
    have h := Row.made (w.alloc (.cells #[.int .u64 ah, .int .u64 al] 24))
    simp only [World.size_alloc] at h
    exact h.congr (fun j hj => by rw [if_neg (by omega)])
  case round =>
    obtain ⟨k, hk, rfl, c0, c1, hR, hG, hS⟩ := hrel
    by_cases hlt : k < 64
    · have hi1 : (0 : Int) ≤ 63 - (k : Int) := by omega
      have d0 := hR.cell (63 - k) (by omega)
      have f0 := hR.free (63 - k)
      have d1 := hR.cell (127 - k) (by omega)
      have f1 := hR.free (127 - k)
      go_wp2
      go_roundw
      case rel =>
        refine ⟨k + 1, by omega, by go_num, ?_, ?_, ?_, (hG.setCell (Nat.le_succ _) _).setCell (Nat.le_succ _) _, by simpa [World.setCell] using hS⟩
        · rw [cother (by intro r; injection r; omega), cother (by intro r; injection r; omega)]; exact c0
        · rw [cother (by intro r; injection r; omega), cother (by intro r; injection r; omega)]; exact c1
        · have p1 := hR.put (k := 63 - k) (y := (ah / 2 ^ k).tmod 2 % 256) (by omega) (fun j _ => rfl)
          refine p1.put (k := 127 - k) (by omega) (fun j hj => ?_)
          by_cases e1 : j = 127 - k
          · subst e1
            rw [if_pos (by omega), if_pos rfl, bit_of a3 (bitW_lo hx k hlt)]
          · rw [if_neg e1]
            by_cases e2 : j = 63 - k
            · subst e2
              rw [if_pos (by omega), if_pos rfl, bit_of a1 (bitW_hi hx k hlt)]
            · rw [if_neg e2]
              by_cases e3 : (j < 64 ∧ 64 ≤ j + k) ∨ (64 ≤ j ∧ 128 ≤ j + k)
              · rw [if_pos e3, if_pos (by omega)]
              · rw [if_neg e3, if_neg (by omega)]
      case measure => simp [intOf]; omega
    · obtain rfl : k = 64 := by omega
      go_wp2
      go_ret
      exact ⟨⟨_, rfl, Nat.le_succ _, hS, hR.congr (fun j hj => by rw [if_pos (by omega)])⟩, hG⟩

end Go.Proofs.Ytjhfkmjaobleiaa
