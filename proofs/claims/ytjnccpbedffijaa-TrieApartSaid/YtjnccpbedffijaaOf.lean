/- What the call Of of package word does: contracts, by walks. -/
import Derived.Test.YtjnccpbedffijaaText
namespace Go.Proofs.Ytjnccpbedffijaa
set_option linter.unusedVariables false
open Go.RowKit

/-- The number that bytes are, the highest first. -/
def numOf (l : List UInt8) : Nat := l.foldl (fun a b => a * 256 + b.toNat) 0
def wordOf (l : List UInt8) : BitVec 128 := BitVec.ofNat 128 (numOf l)

theorem numOf_snoc (l : List UInt8) (c : UInt8) : numOf (l ++ [c]) = numOf l * 256 + c.toNat := by
  unfold numOf; rw [List.foldl_append]; rfl

theorem or_byte (n b : Nat) (hb : b < 256) : n % 340282366920938463463374607431768211456 * 256 % 340282366920938463463374607431768211456 ||| b % 340282366920938463463374607431768211456 = (n * 256 + b) % 340282366920938463463374607431768211456 := by
  have e1 : n % 340282366920938463463374607431768211456 * 256 % 340282366920938463463374607431768211456 = (n % 1329227995784915872903807060280344576) * 2 ^ 8 := by omega
  have e2 : b % 340282366920938463463374607431768211456 = b := by omega
  rw [e1, e2, or_add _ _ 8 hb]
  omega

theorem wordOf_snoc (l : List UInt8) (c : UInt8) : wordOf (l ++ [c]) = (wordOf l <<< 8) ||| BitVec.ofNat 128 c.toNat := by
  apply BitVec.eq_of_toNat_eq
  rw [BitVec.toNat_or, BitVec.toNat_shiftLeft, Nat.shiftLeft_eq]
  unfold wordOf
  rw [numOf_snoc, BitVec.toNat_ofNat, BitVec.toNat_ofNat, BitVec.toNat_ofNat]
  exact (or_byte _ _ c.toNat_lt).symm

theorem isW_byte (c : UInt8) : IsW 0 (c.toNat : Int) (BitVec.ofNat 128 c.toNat) := by
  have hc : c.toNat < 256 := c.toNat_lt
  refine isW_of (by omega) (by omega) ?_
  rw [BitVec.toNat_ofNat]; omega

theorem isW_byteW (c : UInt8) : IsW 0 (IntKind.u64.wrap (c.toNat : Int)) (BitVec.ofNat 128 c.toNat) := by
  have hc : c.toNat < 256 := c.toNat_lt
  have e : IntKind.u64.wrap (c.toNat : Int) = (c.toNat : Int) := by rw [IntKind.wrap_u64]; omega
  rw [e]; exact isW_byte c

/-- Where Of stands ahead of round k. -/
structure Ofx (W : World) (x : BitVec 128) (h l : Int) (wr : World) : Prop where
  r0 : wr.cell? ⟨W.heap.size, 0, none⟩ = some (.int .u64 0)
  r1 : wr.cell? ⟨W.heap.size, 1, none⟩ = some (.int .u64 0)
  s0 : wr.frozen? ⟨W.heap.size, 0, none⟩ = false
  s1 : wr.frozen? ⟨W.heap.size, 1, none⟩ = false
  c0 : wr.cell? ⟨W.heap.size + 1, 0, none⟩ = some (.int .u64 h)
  c1 : wr.cell? ⟨W.heap.size + 1, 1, none⟩ = some (.int .u64 l)
  f0 : wr.frozen? ⟨W.heap.size + 1, 0, none⟩ = false
  f1 : wr.frozen? ⟨W.heap.size + 1, 1, none⟩ = false
  grown : Grown W wr
  num : IsW h l x

theorem Ofx.on {W : World} {x : BitVec 128} {h l : Int} {wr w1 : World} (k : Ofx W x h l wr) (g : Grown wr w1) : Ofx W x h l w1 :=
  ⟨gkeep g k.r0, gkeep g k.r1, gfree g k.s0, gfree g k.s1, gkeep g k.c0, gkeep g k.c1, gfree g k.f0, gfree g k.f1, k.grown.trans3 g, k.num⟩

theorem Ofx.put {W : World} {x y : BitVec 128} {h l h' l' : Int} {wr : World} (k : Ofx W x h l wr) (hy : IsW h' l' y) :
    Ofx W y h' l' ((wr.setCell ⟨W.heap.size + 1, 0, none⟩ (.int .u64 h')).setCell ⟨W.heap.size + 1, 1, none⟩ (.int .u64 l')) where
  r0 := by rw [cother (by intro q; injection q; omega), cother (by intro q; injection q; omega)]; exact k.r0
  r1 := by rw [cother (by intro q; injection q; omega), cother (by intro q; injection q; omega)]; exact k.r1
  s0 := by rw [World.frozen?_setCell, World.frozen?_setCell]; exact k.s0
  s1 := by rw [World.frozen?_setCell, World.frozen?_setCell]; exact k.s1
  c0 := by rw [cother (by intro q; injection q; omega), csame k.c0]
  c1 := csame (u := .int .u64 l) (by rw [cother (by intro q; injection q; omega)]; exact k.c1)
  f0 := by rw [World.frozen?_setCell, World.frozen?_setCell]; exact k.f0
  f1 := by rw [World.frozen?_setCell, World.frozen?_setCell]; exact k.f1
  grown := (k.grown.setCell (Nat.le_succ _) _).setCell (Nat.le_succ _) _
  num := hy

theorem take_snoc (s : ByteArray) (k : Nat) (h : k < s.size) : s.data.toList.take (k + 1) = s.data.toList.take k ++ [s[k]] := by
  rw [List.take_succ_eq_append_getElem (by simpa using h)]; rfl

end Go.Proofs.Ytjnccpbedffijaa
