/- What the calls Text and Of of package word do: contracts, by walks. -/
import Derived.Test.YtjnccpbedffijaaWordsB
import Derived.LoopTactic
import Derived.Laws.BytesArg
import Derived.Laws.IdiomStrings
import Derived.Deep.LoopGhost
import Derived.IntWalk
namespace Go.Proofs.Ytjnccpbedffijaa
set_option linter.unusedVariables false
open Go.RowKit

/-- The byte at place j of a word's text. -/
def byteW (x : BitVec 128) (j : Nat) : Int := ((x.toNat / 2 ^ (8 * (15 - j)) % 256 : Nat) : Int)
def bytesW (x : BitVec 128) : List Int := (List.range 16).map (byteW x)
/-- A word's text. -/
def textW (x : BitVec 128) : ByteArray := strOfNums (bytesW x)

theorem byteW_of {x : BitVec 128} {j : Nat} {p q : Int} (h : IsW p q (x >>> (8 * (15 - j)))) : q % 256 = byteW x j := by
  rw [h.l]; unfold lo byteW
  rw [BitVec.toNat_ushiftRight, Nat.shiftRight_eq_div_pow]
  omega

/-- Where Text stands ahead of round k. -/
structure Tx (W : World) (A B : Nat) (ah al : Int) (x : BitVec 128) (k : Nat) (wr : World) : Prop where
  cells : ∀ j, j < 16 → wr.cell? ⟨B, j, none⟩ = some (.int .u8 (if j < k then byteW x j else 0))
  free : ∀ j, wr.frozen? ⟨B, j, none⟩ = false
  a0 : wr.cell? ⟨A, 0, none⟩ = some (.int .u64 ah)
  a1 : wr.cell? ⟨A, 1, none⟩ = some (.int .u64 al)
  grown : Grown W wr
  own : W.heap.size ≤ B
  ne : A ≠ B

theorem Tx.step {W wr w1 : World} {A B : Nat} {ah al : Int} {x : BitVec 128} {k : Nat} (h : Tx W A B ah al x k wr) (g : Grown wr w1) (hk : k < 16) {v : Int} (hv : v = byteW x k) :
    Tx W A B ah al x (k + 1) (w1.setCell ⟨B, k, none⟩ (.int .u8 v)) where
  cells j hj := by
    by_cases e : j = k
    · subst e
      rw [csame (gkeep g (h.cells j hj)), if_pos (by omega), hv]
    · rw [cother (by intro q; injection q; omega), gkeep g (h.cells j hj)]
      by_cases l : j < k
      · rw [if_pos l, if_pos (by omega)]
      · rw [if_neg l, if_neg (by omega)]
  free j := (World.frozen?_setCell _ _ _ _).trans (gfree g (h.free j))
  a0 := by
    rw [cother (by intro q; injection q with q1; exact h.ne q1.symm)]; exact gkeep g h.a0
  a1 := by
    rw [cother (by intro q; injection q with q1; exact h.ne q1.symm)]; exact gkeep g h.a1
  grown := (h.grown.trans3 g).setCell h.own _
  own := h.own
  ne := h.ne

theorem getD_bytesW (x : BitVec 128) (i : Nat) (h : i < 16) : (bytesW x).getD i 0 = byteW x i := by
  unfold bytesW
  rw [List.getD_eq_getElem?_getD, List.getElem?_map, List.getElem?_range h]; rfl

end Go.Proofs.Ytjnccpbedffijaa
