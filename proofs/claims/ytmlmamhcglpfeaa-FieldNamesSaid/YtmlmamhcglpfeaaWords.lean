/- What each call of package word does: contracts, by walks. No condition but that the arguments are words. -/
import Derived.Test.YtmlmamhcglpfeaaRows
import Derived.Test.YtmlmamhcglpfeaaShelf
import Derived.Test.YtmlmamhcglpfeaaMath
import Derived.Shelf.Spec.BitsCarry
import Derived.WalkKit
import Derived.WalkSpells
import Derived.StillTactics
import Derived.Laws.Pointers
import Derived.Deep.RegionHeld3
import Derived.RowKit3
import Derived.Below
import Derived.RegionTactic
import Derived.BigRegion
namespace Go.Proofs.Ytmlmamhcglpfeaa
set_option linter.unusedVariables false
open Go.RowKit

theorem add64 (x y c : Int) (hx : 0 ≤ x) (hx1 : x < 18446744073709551616) (hy : 0 ≤ y) (hy1 : y < 18446744073709551616) (hc0 : 0 ≤ c) (hc : c ≤ 1) (w : World) : (callFunc 43 #[.int .u64 x, .int .u64 y, .int .u64 c]).run Try.prog w =
    .ok (.value (.tuple #[.int .u64 ((x + y + c) % 18446744073709551616), .int .u64 ((x + y + c) / 18446744073709551616)])) w := by
  obtain ⟨x, rfl⟩ := Int.eq_ofNat_of_zero_le hx
  obtain ⟨y, rfl⟩ := Int.eq_ofNat_of_zero_le hy
  obtain ⟨c, rfl⟩ := Int.eq_ofNat_of_zero_le hc0
  rw [run_callFunc_extern Try.func43 (by kernel_rfl) (by kernel_rfl) (by kernel_rfl) (e := add64Entry) (by kernel_rfl), run_add64 x y c (by omega) (by omega) (by omega) (by omega)]
  simp only [Result.andThen]
theorem sub64 (x y b : Int) (hx : 0 ≤ x) (hy : 0 ≤ y) (hy' : y < 18446744073709551616) (hb0 : 0 ≤ b) (hb : b ≤ 1) (w : World) : (callFunc 44 #[.int .u64 x, .int .u64 y, .int .u64 b]).run Try.prog w =
    .ok (.value (.tuple #[.int .u64 ((x - y - b) % 18446744073709551616), .int .u64 (if x < y + b then 1 else 0)])) w := by
  obtain ⟨x, rfl⟩ := Int.eq_ofNat_of_zero_le hx
  obtain ⟨y, rfl⟩ := Int.eq_ofNat_of_zero_le hy
  obtain ⟨b, rfl⟩ := Int.eq_ofNat_of_zero_le hb0
  have e1 : (((x + 18446744073709551616 - y - b) % 18446744073709551616 : Nat) : Int) = ((x : Int) - y - b) % 18446744073709551616 := by omega
  have e2 : ((if x < y + b then 1 else 0 : Nat) : Int) = if (x : Int) < y + b then 1 else 0 := by split <;> split <;> omega
  rw [← e1, ← e2]
  rw [run_callFunc_extern Try.func44 (by kernel_rfl) (by kernel_rfl) (by kernel_rfl) (e := sub64Entry) (by kernel_rfl), run_sub64 x y b (by omega)]
  rfl
theorem add64_0 (x y : Int) (hx : 0 ≤ x) (hx1 : x < 18446744073709551616) (hy : 0 ≤ y) (hy1 : y < 18446744073709551616) (w : World) : (callFunc 43 #[.int .u64 x, .int .u64 y, .int .u64 0]).run Try.prog w =
    .ok (.value (.tuple #[.int .u64 ((x + y) % 18446744073709551616), .int .u64 ((x + y) / 18446744073709551616)])) w := by
  simpa using add64 x y 0 hx hx1 hy hy1 (Int.le_refl 0) (by decide) w
theorem sub64_0 (x y : Int) (hx : 0 ≤ x) (hy : 0 ≤ y) (hy' : y < 18446744073709551616) (w : World) : (callFunc 44 #[.int .u64 x, .int .u64 y, .int .u64 0]).run Try.prog w =
    .ok (.value (.tuple #[.int .u64 ((x - y) % 18446744073709551616), .int .u64 (bor x y)])) w := by
  simpa [bor] using sub64 x y 0 hx hy hy' (Int.le_refl 0) (by decide) w
theorem bor_0 (x y : Int) : 0 ≤ bor x y := by unfold bor; split <;> omega
theorem bor_1 (x y : Int) : bor x y ≤ 1 := by unfold bor; split <;> omega
theorem sub64_b (x y b : Int) (hx : 0 ≤ x) (hy : 0 ≤ y) (hy' : y < 18446744073709551616) (hb0 : 0 ≤ b) (hb : b ≤ 1) (w : World) : (callFunc 44 #[.int .u64 x, .int .u64 y, .int .u64 b]).run Try.prog w =
    .ok (.value (.tuple #[.int .u64 ((x - y - b) % 18446744073709551616), .int .u64 (bor x (y + b))])) w := by
  simpa [bor] using sub64 x y b hx hy hy' hb0 hb w

/-- A word as a value. -/
abbrev wd (h l : Int) : Value := .agg #[.int .u64 h, .int .u64 l]

theorem ret_wd {h l h' l' : Int} {x : BitVec 128} (k : IsW h l x) (k' : IsW h' l' x) : Ending.returned (wd h l) = .returned (wd h' l') := by
  rw [k.h, k.l, k'.h, k'.l]

theorem new_c (l : Int) (w : World) :
    Calls Try.prog 15 #[.int .u64 l] w fun e w' => e = .returned (.agg #[.int .u64 0, .int .u64 l]) ∧ Grown w w' := by
  go_enter Try.func15, Try.ntmps15
  go_wp2
  simp [bodyPost, results, Try.results15, go_sem]
  exact (Grown.refl _).alloc _ _

theorem add_c {ah al bh bl rh rl : Int} (x y : BitVec 128) (hx : IsW ah al x) (hy : IsW bh bl y) (hr : IsW rh rl (x + y)) (w : World) :
    Calls Try.prog 17 #[.agg #[.int .u64 ah, .int .u64 al], .agg #[.int .u64 bh, .int .u64 bl]] w fun e w' => e = .returned (.agg #[.int .u64 rh, .int .u64 rl]) ∧ Grown w w' := by
  have hs := add_halves hx hy
  have a1 := hx.h0; have a2 := hx.h1; have a3 := hx.l0; have a4 := hx.l1
  have b1 := hy.h0; have b2 := hy.h1; have b3 := hy.l0; have b4 := hy.l1
  have k0 : 0 ≤ (al + bl) / 18446744073709551616 := by omega
  have k1 : (al + bl) / 18446744073709551616 ≤ 1 := by omega
  obtain rfl : rh = (ah + bh + (al + bl) / 18446744073709551616) % 18446744073709551616 := hr.h.trans hs.h.symm
  obtain rfl : rl = (al + bl) % 18446744073709551616 := hr.l.trans hs.l.symm
  clear hs hr hx hy
  go_enter Try.func17, Try.ntmps17
  go_wp2_with (first | simp only [add64_0 al bl a3 a4 b3 b4] | simp only [add64 ah bh _ a1 a2 b1 b2 k0 k1])
  simp [bodyPost, results, Try.results17, go_sem]
  exact (((Grown.refl _).alloc _ _).alloc _ _).alloc _ _

theorem sub_c {ah al bh bl rh rl : Int} (x y : BitVec 128) (hx : IsW ah al x) (hy : IsW bh bl y) (hr : IsW rh rl (x - y)) (w : World) :
    Calls Try.prog 18 #[.agg #[.int .u64 ah, .int .u64 al], .agg #[.int .u64 bh, .int .u64 bl]] w fun e w' => e = .returned (.agg #[.int .u64 rh, .int .u64 rl]) ∧ Grown w w' := by
  have hs := sub_halves hx hy
  have a1 := hx.h0; have a2 := hx.h1; have a3 := hx.l0; have a4 := hx.l1
  have b1 := hy.h0; have b2 := hy.h1; have b3 := hy.l0; have b4 := hy.l1
  have k0 := bor_0 al bl
  have k1 := bor_1 al bl
  obtain rfl : rh = (ah - bh - bor al bl) % 18446744073709551616 := hr.h.trans hs.h.symm
  obtain rfl : rl = (al - bl) % 18446744073709551616 := hr.l.trans hs.l.symm
  clear hs hr hx hy
  go_enter Try.func18, Try.ntmps18
  go_wp2_with (first | simp only [sub64_0 al bl a3 b3 b4] | simp only [sub64_b ah bh _ a1 b1 b2 k0 k1])
  simp [bodyPost, results, Try.results18, go_sem]
  exact (((Grown.refl _).alloc _ _).alloc _ _).alloc _ _

theorem and_c {ah al bh bl rh rl : Int} (x y : BitVec 128) (hx : IsW ah al x) (hy : IsW bh bl y) (hr : IsW rh rl (x &&& y)) (w : World) :
    Calls Try.prog 41 #[.agg #[.int .u64 ah, .int .u64 al], .agg #[.int .u64 bh, .int .u64 bl]] w fun e w' => e = .returned (.agg #[.int .u64 rh, .int .u64 rl]) ∧ Grown w w' := by
  have hs := and_halves hx hy
  obtain rfl := hr.h.trans hs.h.symm
  obtain rfl := hr.l.trans hs.l.symm
  clear hs hr hx hy
  go_enter Try.func41, Try.ntmps41
  go_wp2
  simp [bodyPost, results, Try.results41, go_sem]
  exact (((Grown.refl _).alloc _ _).alloc _ _).alloc _ _

theorem or_c {ah al bh bl rh rl : Int} (x y : BitVec 128) (hx : IsW ah al x) (hy : IsW bh bl y) (hr : IsW rh rl (x ||| y)) (w : World) :
    Calls Try.prog 40 #[.agg #[.int .u64 ah, .int .u64 al], .agg #[.int .u64 bh, .int .u64 bl]] w fun e w' => e = .returned (.agg #[.int .u64 rh, .int .u64 rl]) ∧ Grown w w' := by
  have hs := or_halves hx hy
  obtain rfl := hr.h.trans hs.h.symm
  obtain rfl := hr.l.trans hs.l.symm
  clear hs hr hx hy
  go_enter Try.func40, Try.ntmps40
  go_wp2
  simp [bodyPost, results, Try.results40, go_sem]
  exact (((Grown.refl _).alloc _ _).alloc _ _).alloc _ _

theorem xor_c {ah al bh bl rh rl : Int} (x y : BitVec 128) (hx : IsW ah al x) (hy : IsW bh bl y) (hr : IsW rh rl (x ^^^ y)) (w : World) :
    Calls Try.prog 42 #[.agg #[.int .u64 ah, .int .u64 al], .agg #[.int .u64 bh, .int .u64 bl]] w fun e w' => e = .returned (.agg #[.int .u64 rh, .int .u64 rl]) ∧ Grown w w' := by
  have hs := xor_halves hx hy
  obtain rfl := hr.h.trans hs.h.symm
  obtain rfl := hr.l.trans hs.l.symm
  clear hs hr hx hy
  go_enter Try.func42, Try.ntmps42
  go_wp2
  simp [bodyPost, results, Try.results42, go_sem]
  exact (((Grown.refl _).alloc _ _).alloc _ _).alloc _ _

theorem not_c {ah al rh rl : Int} (x : BitVec 128) (hx : IsW ah al x) (hr : IsW rh rl (~~~ x)) (w : World) :
    Calls Try.prog 13 #[.agg #[.int .u64 ah, .int .u64 al]] w fun e w' => e = .returned (.agg #[.int .u64 rh, .int .u64 rl]) ∧ Grown w w' := by
  have hs := not_halves hx
  obtain rfl := hr.h.trans hs.h.symm
  obtain rfl := hr.l.trans hs.l.symm
  clear hs hr hx
  go_enter Try.func13, Try.ntmps13
  go_wp2
  simp [bodyPost, results, Try.results13, go_sem]
  exact ⟨⟨rfl, rfl⟩, ((Grown.refl _).alloc _ _).alloc _ _⟩

theorem Grown3 {W a b c : World} (h : Grown W a) (h2 : Grown a b) (h3 : Grown b c) : Grown W c := by
  obtain ⟨k1, f1, s1⟩ := h; obtain ⟨k2, f2, s2⟩ := h2; obtain ⟨k3, f3, s3⟩ := h3
  exact ⟨World.keptBut_trans k1 (World.keptBut_trans k2 k3), fun a => (f3 a).trans ((f2 a).trans (f1 a)), Nat.le_trans s1 (Nat.le_trans s2 s3)⟩

set_option maxHeartbeats 1000000 in
theorem left_c {ah al rh rl : Int} (x : BitVec 128) (n : Int) (n0 : -9223372036854775808 ≤ n) (n1 : n ≤ 9223372036854775807) (hx : IsW ah al x) (hr : IsW rh rl (x <<< n.toNat)) (w : World) :
    Calls Try.prog 14 #[.agg #[.int .u64 ah, .int .u64 al], .int .i64 n] w fun e w' => e = .returned (.agg #[.int .u64 rh, .int .u64 rl]) ∧ Grown w w' := by
  have a1 := hx.h0; have a2 := hx.h1; have a3 := hx.l0; have a4 := hx.l1
  by_cases h : n < 64
  · have hs := shl_halves hx n.toNat (by omega)
    clear hx
    go_enter Try.func14, Try.ntmps14
    go_wp2
    go_region
    go_wp2
    simp [bodyPost, results, Try.results14, go_sem]
    have q1 : (max n 0).toNat = n.toNat := by omega
    have q2 : (64 - max n 0).toNat = 64 - n.toNat := by omega
    rw [q1, q2]
    exact ⟨⟨hs.h.trans hr.h.symm, hs.l.trans hr.l.symm⟩, (((Grown.refl _).alloc _ _).alloc _ _).drew⟩
  · have h' : 64 ≤ n := by omega
    have h2 : 64 ≤ max n 0 := by omega
    have hs := shl_far hx n.toNat (by omega)
    clear hx
    go_enter Try.func14, Try.ntmps14
    go_wp2
    simp [bodyPost, results, Try.results14, go_sem]
    have q1 : (max n 0 - 64).toNat = n.toNat - 64 := by omega
    rw [q1]
    exact ⟨⟨hs.h.trans hr.h.symm, hs.l.trans hr.l.symm⟩, ((Grown.refl _).alloc _ _).alloc _ _⟩

set_option maxHeartbeats 1000000 in
theorem right_c {ah al rh rl : Int} (x : BitVec 128) (n : Int) (n0 : -9223372036854775808 ≤ n) (n1 : n ≤ 9223372036854775807) (hx : IsW ah al x) (hr : IsW rh rl (x >>> n.toNat)) (w : World) :
    Calls Try.prog 21 #[.agg #[.int .u64 ah, .int .u64 al], .int .i64 n] w fun e w' => e = .returned (.agg #[.int .u64 rh, .int .u64 rl]) ∧ Grown w w' := by
  have a1 := hx.h0; have a2 := hx.h1; have a3 := hx.l0; have a4 := hx.l1
  by_cases h : n < 64
  · have hs := shr_halves hx n.toNat (by omega)
    clear hx
    go_enter Try.func21, Try.ntmps21
    go_wp2
    go_region
    go_wp2
    simp [bodyPost, results, Try.results21, go_sem]
    have q1 : (max n 0).toNat = n.toNat := by omega
    have q2 : (64 - max n 0).toNat = 64 - n.toNat := by omega
    rw [q1, q2]
    exact ⟨⟨hs.h.trans hr.h.symm, hs.l.trans hr.l.symm⟩, (((Grown.refl _).alloc _ _).alloc _ _).drew⟩
  · have h' : 64 ≤ n := by omega
    have h2 : 64 ≤ max n 0 := by omega
    have hs := shr_far hx n.toNat (by omega)
    clear hx
    go_enter Try.func21, Try.ntmps21
    go_wp2
    simp [bodyPost, results, Try.results21, go_sem]
    have q1 : (max n 0 - 64).toNat = n.toNat - 64 := by omega
    rw [q1]
    exact ⟨⟨hs.h.trans hr.h.symm, hs.l.trans hr.l.symm⟩, ((Grown.refl _).alloc _ _).alloc _ _⟩

end Go.Proofs.Ytmlmamhcglpfeaa
