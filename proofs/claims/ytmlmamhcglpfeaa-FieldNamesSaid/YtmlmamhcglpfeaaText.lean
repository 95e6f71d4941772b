/- What the calls Text and Of of package word do: contracts, by walks. -/
import Derived.Test.YtmlmamhcglpfeaaWordsB
import Derived.LoopTactic
import Derived.Laws.BytesArg
import Derived.Laws.IdiomStrings
import Derived.Deep.LoopGhost
import Derived.IntWalk
namespace Go.Proofs.Ytmlmamhcglpfeaa
set_option linter.unusedVariables false
open Go.RowKit

/-- The byte at place j of a word's text. -/
def byteW (x : BitVec 128) (j : Nat) : Int := ((x.toNat / 2 ^ (8 * (15 - j)) % 256 : Nat) : Int)
def bytesW (x : BitVec 128) : List Int := (List.range 16).map (byteW x)
/-- A word's text. -/
def textW (x : BitVec 128) : ByteArray := strOfNums (bytesW x)

theorem byteW_of {x : BitVec 128} {j : Nat} {p q : Int} (h : IsW p q (x >>> (8 * (15 - j)))) : q % 256 = byteW x j := by
  rw [h.l]; unfold lo byteW
  rw [BitVec.toNat_ushiftRight, Nat.shiftRight_eq_div_pow]
  omega

theorem csame {w : World} {a : Addr} {u v : Value} (h : w.cell? a = some u) : (w.setCell a v).cell? a = some v := World.cell?_setCell_same' w a v (by rw [h]; rfl)
theorem cother {w : World} {a b : Addr} {v : Value} (h : a ≠ b) : (w.setCell a v).cell? b = w.cell? b := by
  first | exact World.cell?_setCell_other h | exact World.cell?_setCell_other _ _ _ _ h | exact World.cell?_setCell_other _ _ h | exact World.cell?_setCell_other _ h

/-- Where Text stands ahead of round k. -/
structure Tx (W : World) (A B : Nat) (ah al : Int) (x : BitVec 128) (k : Nat) (wr : World) : Prop where
  cells : ∀ j, j < 16 → wr.cell? ⟨B, j, none⟩ = some (.int .u8 (if j < k then byteW x j else 0))
  free : ∀ j, wr.frozen? ⟨B, j, none⟩ = false
  a0 : wr.cell? ⟨A, 0, none⟩ = some (.int .u64 ah)
  a1 : wr.cell? ⟨A, 1, none⟩ = some (.int .u64 al)
  grown : Grown W wr
  own : W.heap.size ≤ B
  ne : A ≠ B

theorem Tx.step {W wr w1 : World} {A B : Nat} {ah al : Int} {x : BitVec 128} {k : Nat} (h : Tx W A B ah al x k wr) (g : Grown wr w1) (hk : k < 16) {v : Int} (hv : v = byteW x k) :
    Tx W A B ah al x (k + 1) (w1.setCell ⟨B, k, none⟩ (.int .u8 v)) where
  cells j hj := by
    by_cases e : j = k
    · subst e
      rw [csame (gkeep g (h.cells j hj)), if_pos (by omega), hv]
    · rw [cother (by intro q; injection q; omega), gkeep g (h.cells j hj)]
      by_cases l : j < k
      · rw [if_pos l, if_pos (by omega)]
      · rw [if_neg l, if_neg (by omega)]
  free j := (World.frozen?_setCell _ _ _ _).trans (gfree g (h.free j))
  a0 := by
    rw [cother (by intro q; injection q with q1; exact h.ne q1.symm)]; exact gkeep g h.a0
  a1 := by
    rw [cother (by intro q; injection q with q1; exact h.ne q1.symm)]; exact gkeep g h.a1
  grown := (h.grown.trans3 g).setCell h.own _
  own := h.own
  ne := h.ne

theorem getD_bytesW (x : BitVec 128) (i : Nat) (h : i < 16) : (bytesW x).getD i 0 = byteW x i := by
  unfold bytesW
  rw [List.getD_eq_getElem?_getD, List.getElem?_map, List.getElem?_range h]; rfl

set_option maxHeartbeats 1000000 in
theorem text_c {ah al : Int} (x : BitVec 128) (hx : IsW ah al x) (w : World) :
    Calls Try.prog 24 #[.agg #[.int .u64 ah, .int .u64 al]] w fun e w' => e = .returned (.string (textW x)) ∧ Grown w w' := by
  go_enter Try.func24, Try.ntmps24
  go_wp2
  go_loopw [5] (fun i wr => ∃ k : Nat, k ≤ 16 ∧ i = .int .i64 k ∧ Tx w w.heap.size (w.heap.size + 1) ah al x k wr) (fun i _ => 16 - (intOf i).toNat)
  case atStart =>
    refine ⟨0, by omega, rfl, ?_⟩
    refine ⟨?_, ?_, ?_, ?_, ((Grown.refl _).alloc _ _).alloc _ _, Nat.le_succ _, by omega⟩
    · intro j hj
      rw [if_neg (by omega)]
      have hb : w.heap.size + 1 = (w.alloc (.cells #[.int .u64 ah, .int .u64 al] 24)).heap.size := by simp
      rw [hb, World.cell?_alloc_new]
      match j, hj with
      | 0, _ => rfl
      | 1, _ => rfl
      | 2, _ => rfl
      | 3, _ => rfl
      | 4, _ => rfl
      | 5, _ => rfl
      | 6, _ => rfl
      | 7, _ => rfl
      | 8, _ => rfl
      | 9, _ => rfl
      | 10, _ => rfl
      | 11, _ => rfl
      | 12, _ => rfl
      | 13, _ => rfl
      | 14, _ => rfl
      | 15, _ => rfl
      | n + 16, h => exact absurd h (by omega)
    · intro j
      simp [go_sem]
    · simp [go_sem]
    · simp [go_sem]
  case round =>
    obtain ⟨k, hk, rfl, hT⟩ := hrel
    by_cases hlt : k < 16
    · have c0 := hT.a0
      have c1 := hT.a1
      obtain ⟨p, q, hp⟩ := isW_ex (x >>> (8 * (15 - k)))
      have hf : ∀ W : World, (Instr.field 24 (.agg #[.int .u64 p, .int .u64 q]) 1).run Try.prog W = .ok (.int .u64 q) W := fun _ => by kernel_rfl
      go_wp2_with (go_at_call 21; refine (right_c x (8 * (15 - (k : Int))) (by omega) (by omega) hx (by rw [show (8 * (15 - (k : Int))).toNat = 8 * (15 - k) by omega]; exact hp) _).mono ?_; rintro e w1 ⟨rfl, g1⟩; have d0 := gkeep g1 (hT.cells k hlt); have d1 := gfree g1 (hT.free k))
      go_roundw
      case rel => exact ⟨k + 1, by omega, by go_num, hT.step g1 hlt (byteW_of hp)⟩
      case measure => simp [intOf]; omega
    · obtain rfl : k = 16 := by omega
      have hconv := run_convert_bytes_arg (P := Try.prog) wr 61 5 Try.underlying61 Try.underlying5 (w.heap.size + 1) 0 16 16 (bytesW x) rfl (fun i hi => by rw [Nat.zero_add, hT.cells i hi, if_pos hi, getD_bytesW x i hi]) 9 Try.underlying9
      go_wp2
      go_ret
      exact ⟨rfl, hT.grown⟩

end Go.Proofs.Ytmlmamhcglpfeaa
