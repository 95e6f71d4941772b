/- What each call of package word does: contracts, by walks. No condition but that the arguments are words. -/
import Derived.Test.YtjnccpbedffijaaRows
import Derived.Test.YtjnccpbedffijaaBase
import Derived.Test.YtjnccpbedffijaaShelf
import Derived.Test.YtjnccpbedffijaaMath
import Derived.Shelf.Spec.BitsCarry
import Derived.WalkKit
import Derived.WalkSpells
import Derived.StillTactics
import Derived.Laws.Pointers
import Derived.Deep.RegionHeld3
import Derived.RowKit3
import Derived.Below
import Derived.RegionTactic
import Derived.BigRegion
namespace Go.Proofs.Ytjnccpbedffijaa
set_option linter.unusedVariables false
open Go.RowKit

theorem bor_0 (x y : Int) : 0 ≤ bor x y := by unfold bor; split <;> omega
theorem bor_1 (x y : Int) : bor x y ≤ 1 := by unfold bor; split <;> omega
/-- A word as a value. -/
abbrev wd (h l : Int) : Value := .agg #[.int .u64 h, .int .u64 l]

theorem ret_wd {h l h' l' : Int} {x : BitVec 128} (k : IsW h l x) (k' : IsW h' l' x) : Ending.returned (wd h l) = .returned (wd h' l') := by
  rw [k.h, k.l, k'.h, k'.l]

theorem new_c (l : Int) (w : World) :
    Calls Try.prog 41 #[.int .u64 l] w fun e w' => e = .returned (.agg #[.int .u64 0, .int .u64 l]) ∧ Grown w w' := by
  go_enter Try.func41, Try.ntmps41
  go_wp2
  simp [bodyPost, results, Try.results41, go_sem]
  exact (Grown.refl _).alloc _ _

theorem or_c {ah al bh bl rh rl : Int} (x y : BitVec 128) (hx : IsW ah al x) (hy : IsW bh bl y) (hr : IsW rh rl (x ||| y)) (w : World) :
    Calls Try.prog 39 #[.agg #[.int .u64 ah, .int .u64 al], .agg #[.int .u64 bh, .int .u64 bl]] w fun e w' => e = .returned (.agg #[.int .u64 rh, .int .u64 rl]) ∧ Grown w w' := by
  have hs := or_halves hx hy
  obtain rfl := hr.h.trans hs.h.symm
  obtain rfl := hr.l.trans hs.l.symm
  clear hs hr hx hy
  go_enter Try.func39, Try.ntmps39
  go_wp2
  simp [bodyPost, results, Try.results39, go_sem]
  exact (((Grown.refl _).alloc _ _).alloc _ _).alloc _ _

set_option maxHeartbeats 1000000 in
theorem left_c {ah al rh rl : Int} (x : BitVec 128) (n : Int) (n0 : -9223372036854775808 ≤ n) (n1 : n ≤ 9223372036854775807) (hx : IsW ah al x) (hr : IsW rh rl (x <<< n.toNat)) (w : World) :
    Calls Try.prog 40 #[.agg #[.int .u64 ah, .int .u64 al], .int .i64 n] w fun e w' => e = .returned (.agg #[.int .u64 rh, .int .u64 rl]) ∧ Grown w w' := by
  have a1 := hx.h0; have a2 := hx.h1; have a3 := hx.l0; have a4 := hx.l1
  by_cases h : n < 64
  · have hs := shl_halves hx n.toNat (by omega)
    clear hx
    go_enter Try.func40, Try.ntmps40
    go_wp2
    go_region
    go_wp2
    simp [bodyPost, results, Try.results40, go_sem]
    have q1 : (max n 0).toNat = n.toNat := by omega
    have q2 : (64 - max n 0).toNat = 64 - n.toNat := by omega
    rw [q1, q2]
    exact ⟨⟨hs.h.trans hr.h.symm, hs.l.trans hr.l.symm⟩, (((Grown.refl _).alloc _ _).alloc _ _).drew⟩
  · have h' : 64 ≤ n := by omega
    have h2 : 64 ≤ max n 0 := by omega
    have hs := shl_far hx n.toNat (by omega)
    clear hx
    go_enter Try.func40, Try.ntmps40
    go_wp2
    simp [bodyPost, results, Try.results40, go_sem]
    have q1 : (max n 0 - 64).toNat = n.toNat - 64 := by omega
    rw [q1]
    exact ⟨⟨hs.h.trans hr.h.symm, hs.l.trans hr.l.symm⟩, ((Grown.refl _).alloc _ _).alloc _ _⟩

set_option maxHeartbeats 1000000 in
theorem right_c {ah al rh rl : Int} (x : BitVec 128) (n : Int) (n0 : -9223372036854775808 ≤ n) (n1 : n ≤ 9223372036854775807) (hx : IsW ah al x) (hr : IsW rh rl (x >>> n.toNat)) (w : World) :
    Calls Try.prog 42 #[.agg #[.int .u64 ah, .int .u64 al], .int .i64 n] w fun e w' => e = .returned (.agg #[.int .u64 rh, .int .u64 rl]) ∧ Grown w w' := by
  have a1 := hx.h0; have a2 := hx.h1; have a3 := hx.l0; have a4 := hx.l1
  by_cases h : n < 64
  · have hs := shr_halves hx n.toNat (by omega)
    clear hx
    go_enter Try.func42, Try.ntmps42
    go_wp2
    go_region
    go_wp2
    simp [bodyPost, results, Try.results42, go_sem]
    have q1 : (max n 0).toNat = n.toNat := by omega
    have q2 : (64 - max n 0).toNat = 64 - n.toNat := by omega
    rw [q1, q2]
    exact ⟨⟨hs.h.trans hr.h.symm, hs.l.trans hr.l.symm⟩, (((Grown.refl _).alloc _ _).alloc _ _).drew⟩
  · have h' : 64 ≤ n := by omega
    have h2 : 64 ≤ max n 0 := by omega
    have hs := shr_far hx n.toNat (by omega)
    clear hx
    go_enter Try.func42, Try.ntmps42
    go_wp2
    simp [bodyPost, results, Try.results42, go_sem]
    have q1 : (max n 0 - 64).toNat = n.toNat - 64 := by omega
    rw [q1]
    exact ⟨⟨hs.h.trans hr.h.symm, hs.l.trans hr.l.symm⟩, ((Grown.refl _).alloc _ _).alloc _ _⟩

end Go.Proofs.Ytjnccpbedffijaa
