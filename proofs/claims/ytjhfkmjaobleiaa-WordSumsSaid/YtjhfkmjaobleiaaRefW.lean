/- What the document's answer Word of layer 1 does: a word of a row of bits. -/
import Derived.Test.YtjhfkmjaobleiaaRefA
import Derived.Lib.Hide
import Derived.RegionTactic
import Derived.BigRegion
namespace Go.Proofs.Ytjhfkmjaobleiaa
set_option linter.unusedVariables false
open Go.RowKit

/-- The number that n bits are, the highest first. -/
def numB (v : Nat → Int) : Nat → Nat
  | 0 => 0
  | n + 1 => 2 * numB v n + (v n).toNat
theorem numB_congr {v u : Nat → Int} : ∀ n, (∀ j, j < n → v j = u j) → numB v n = numB u n := by
  intro n
  induction n with
  | zero => intro _; rfl
  | succ n ih => intro h; unfold numB; rw [ih (fun j hj => h j (by omega)), h n (by omega)]
theorem numB_bits (x : BitVec 128) : ∀ n, n ≤ 128 → numB (bitW x) n = x.toNat / 2 ^ (128 - n) := by
  intro n
  induction n with
  | zero => intro _; have := lt128 x; show 0 = _; symm; exact Nat.div_eq_of_lt this
  | succ n ih =>
    intro h
    unfold numB
    rw [ih (by omega)]
    have e : (bitW x n).toNat = x.toNat / 2 ^ (127 - n) % 2 := by unfold bitW; omega
    rw [e]
    have p : 128 - n = (127 - n) + 1 := by omega
    have q : 128 - (n + 1) = 127 - n := by omega
    rw [p, q, Nat.pow_succ, ← Nat.div_div_eq_div_mul]
    omega
theorem word_of_bits (x : BitVec 128) {v : Nat → Int} (h : ∀ j, j < 128 → v j = bitW x j) : BitVec.ofNat 128 (numB v 128) = x := by
  rw [numB_congr 128 h, numB_bits x 128 (Nat.le_refl _)]
  simp

theorem word_step {h l v : Int} {x : BitVec 128} (k : IsW h l x) (v0 : 0 ≤ v) (v1 : v ≤ 1) :
    IsW ((h * 2 % 18446744073709551616 + l / 9223372036854775808) % 18446744073709551616) ((l * 2 % 18446744073709551616 + v) % 18446744073709551616) (BitVec.ofNat 128 (2 * x.toNat + v.toNat)) := by
  have := k.val; have := k.h0; have := k.h1; have := k.l0; have := k.l1
  refine isW_of (by omega) (by omega) ?_
  rw [BitVec.toNat_ofNat]
  omega
theorem ofNat_step (a b : Nat) : BitVec.ofNat 128 (2 * (BitVec.ofNat 128 a).toNat + b) = BitVec.ofNat 128 (2 * a + b) := by
  apply BitVec.eq_of_toNat_eq
  rw [BitVec.toNat_ofNat, BitVec.toNat_ofNat, BitVec.toNat_ofNat]
  omega

/-- Where Word stands ahead of round k. -/
structure Wx (W : World) (h l : Int) (wr : World) : Prop where
  r0 : wr.cell? ⟨W.heap.size, 0, none⟩ = some (.int .u64 0)
  r1 : wr.cell? ⟨W.heap.size, 1, none⟩ = some (.int .u64 0)
  s0 : wr.frozen? ⟨W.heap.size, 0, none⟩ = false
  s1 : wr.frozen? ⟨W.heap.size, 1, none⟩ = false
  c0 : wr.cell? ⟨W.heap.size + 1, 0, none⟩ = some (.int .u64 h)
  c1 : wr.cell? ⟨W.heap.size + 1, 1, none⟩ = some (.int .u64 l)
  f0 : wr.frozen? ⟨W.heap.size + 1, 0, none⟩ = false
  f1 : wr.frozen? ⟨W.heap.size + 1, 1, none⟩ = false
  grown : Grown W wr
theorem Wx.put {W : World} {h l h' l' : Int} {wr : World} (k : Wx W h l wr) :
    Wx W h' l' ((wr.setCell ⟨W.heap.size + 1, 0, none⟩ (.int .u64 h')).setCell ⟨W.heap.size + 1, 1, none⟩ (.int .u64 l')) where
  r0 := by rw [cother (by intro q; injection q; omega), cother (by intro q; injection q; omega)]; exact k.r0
  r1 := by rw [cother (by intro q; injection q; omega), cother (by intro q; injection q; omega)]; exact k.r1
  s0 := by rw [World.frozen?_setCell, World.frozen?_setCell]; exact k.s0
  s1 := by rw [World.frozen?_setCell, World.frozen?_setCell]; exact k.s1
  c0 := by rw [cother (by intro q; injection q; omega), csame k.c0]
  c1 := csame (u := .int .u64 l) (by rw [cother (by intro q; injection q; omega)]; exact k.c1)
  f0 := by rw [World.frozen?_setCell, World.frozen?_setCell]; exact k.f0
  f1 := by rw [World.frozen?_setCell, World.frozen?_setCell]; exact k.f1
  grown := (k.grown.setCell (Nat.le_succ _) _).setCell (Nat.le_succ _) _
theorem Wx.drew {W : World} {h l : Int} {wr : World} (k : Wx W h l wr) : Wx W h l wr.drew := ⟨k.r0, k.r1, k.s0, k.s1, k.c0, k.c1, k.f0, k.f1, k.grown.drew⟩

set_option maxHeartbeats 2000000 in
theorem word_c {rh rl : Int} (B n cap : Nat) (v : Nat → Int) (w : World) (hB : B < w.heap.size) (hn : n ≤ 1000) (hR : Row w B n v) (hv : ∀ j, j < n → 0 ≤ v j ∧ v j ≤ 1)
    (hr : IsW rh rl (BitVec.ofNat 128 (numB v n))) :
    Calls Try.prog 49 #[.slice (some ⟨B, 0, none⟩) n cap] w fun e w' => e = .returned (.agg #[.int .u64 rh, .int .u64 rl]) ∧ Grown w w' := by
  go_enter Try.func49, Try.ntmps49
  go_wp2
  go_loopw [4] (fun i wr => ∃ k : Nat, k ≤ n ∧ i = .int .i64 k ∧ ∃ h l : Int, Wx w h l wr ∧ IsW h l (BitVec.ofNat 128 (numB v k))) (fun i _ => n - (intOf i).toNat)
  case atStart =>
    refine ⟨0, by omega, rfl, 0, 0, ?_, (⟨by decide, by decide⟩ : IsW 0 0 (0#128))⟩
    refine ⟨?_, ?_, ?_, ?_, ?_, ?_, ?_, ?_, ((Grown.refl _).alloc _ _).alloc _ _⟩ <;> simp [go_sem]
  case round =>
    obtain ⟨k, hk, rfl, h, l, hX, hI⟩ := hrel
    have c0 := hX.c0
    have c1 := hX.c1
    have f0 := hX.f0
    have f1 := hX.f1
    by_cases hlt : k < n
    · have kn : (k : Int) < (n : Int) := by omega
      have k0 : (0 : Int) ≤ (k : Int) := by omega
      have e := gkeep hX.grown (hR.cell k hlt)
      obtain ⟨v0, v1⟩ := hv k hlt
      obtain ⟨y, hy⟩ : ∃ y : Int, v k = y := ⟨_, rfl⟩
      rw [hy] at e v0 v1
      have l0 := hI.l0; have l1 := hI.l1; have h0 := hI.h0; have h1 := hI.h1
      have nB : (⟨w.heap.size + 1, 0, none⟩ : Addr) ≠ ⟨B, k, none⟩ := by intro q; injection q; omega
      obtain ⟨H, hH⟩ : ∃ H : Int, IntKind.u64.wrap (IntKind.u64.wrap (h * 2) + l / 9223372036854775808) = H := ⟨_, rfl⟩
      have e' : (wr.setCell ⟨w.heap.size + 1, 0, none⟩ (.int .u64 H)).cell? ⟨B, k, none⟩ = some (.int .u8 y) := by rw [cother nB]; exact e
      have hk1 : v k = y := hy
      have HY := Lib.hid hk1
      clear hy hk1
      go_wp2
      go_region
      go_wp2
      have hstep := word_step hI v0 v1
      have hw : IntKind.u64.wrap (IntKind.u64.wrap (h * 2) + l / 9223372036854775808) = (h * 2 % 18446744073709551616 + l / 9223372036854775808) % 18446744073709551616 := by rw [IntKind.wrap_u64, IntKind.wrap_u64]
      have hl : ∀ q : Int, IntKind.u64.wrap (IntKind.u64.wrap (l * 2) + q) = (l * 2 % 18446744073709551616 + q) % 18446744073709551616 := by intro q; rw [IntKind.wrap_u64, IntKind.wrap_u64]
      have hwy : IntKind.u64.wrap y = y := by rw [IntKind.wrap_u64]; omega
      rw [ofNat_step] at hstep
      go_roundw
      case rel =>
        refine ⟨k + 1, by omega, by go_num, H, IntKind.u64.wrap (IntKind.u64.wrap (l * 2) + y), ?_, ?_⟩
        · exact hX.put.drew
        · first
            | (rw [← hH, hw, hl, hwy]; show IsW _ _ (BitVec.ofNat 128 (2 * numB v k + (v k).toNat)); rw [HY.out]; exact hstep)
            | (rw [← hH, hw, hl]; show IsW _ _ (BitVec.ofNat 128 (2 * numB v k + (v k).toNat)); rw [HY.out]; exact hstep)

      case measure => simp [intOf]; omega
    · obtain rfl : k = n := by omega
      have r0 := hX.r0
      have r1 := hX.r1
      have s0 := hX.s0
      have s1 := hX.s1
      obtain rfl : h = rh := hI.h.trans hr.h.symm
      obtain rfl : l = rl := hI.l.trans hr.l.symm
      go_wp2
      simp [bodyPost, results, Try.results49, go_sem, r0, r1]
      exact (hX.grown.setCell (Nat.le_refl _) _).setCell (Nat.le_refl _) _

end Go.Proofs.Ytjhfkmjaobleiaa
