/- What the document's answers Cut, Compare, Size of layer 1 do. -/
import Derived.Test.YtjhfkmjaobleiaaRefK
import Derived.Lib.Hide
import Derived.Test.YtjhfkmjaobleiaaRefEach
import Derived.Test.YtjhfkmjaobleiaaRefShift
import Derived.Deep.RegionWith
import Derived.RegionTactic
import Derived.BigRegion
import Derived.Deep.RegionHeld3
namespace Go.Proofs.Ytjhfkmjaobleiaa
set_option linter.unusedVariables false
open Go.RowKit

theorem rcut_c {ah al rh rl : Int} (x : BitVec 128) (n : Int) (n0 : -9223372036854775808 ≤ n) (n1 : n ≤ 9223372036854775807) (hx : IsW ah al x) (hr : IsW rh rl (x &&& mask n.toNat)) (w : World) :
    Calls Try.prog 41 #[.agg #[.int .u64 ah, .int .u64 al], .int .i64 n] w fun e w' => e = .returned (.agg #[.int .u64 rh, .int .u64 rl]) ∧ Grown w w' := by
  obtain ⟨p, q, hm⟩ := isW_ex (mask n.toNat)
  go_enter Try.func41, Try.ntmps41
  go_wp2
  go_region_with (first
      | (go_at_call 40; ((with_reducible refine (rmask_c n n0 n1 hm _).mono ?_); rintro e w1 ⟨rfl, g1⟩; have j0 := gkeep g1 (a := ⟨w.heap.size, 0, none⟩) (v := .int .u64 ah) (by simp [go_sem]); have j1 := gkeep g1 (a := ⟨w.heap.size, 1, none⟩) (v := .int .u64 al) (by simp [go_sem]); have j2 := gkeep g1 (a := ⟨w.heap.size + 1, 0, none⟩) (v := .int .u64 0) (by simp [go_sem]); have j3 := gkeep g1 (a := ⟨w.heap.size + 1, 1, none⟩) (v := .int .u64 0) (by simp [go_sem]); have j4 := gfree g1 (a := ⟨w.heap.size + 1, 0, none⟩) (by simp [go_sem]); have j5 := gfree g1 (a := ⟨w.heap.size + 1, 1, none⟩) (by simp [go_sem])))
      | (go_at_call 31; ((with_reducible refine (rand_c x _ hx hm hr _).mono ?_); rintro e w2 ⟨rfl, g2⟩; replace j2 := gkeep g2 j2; replace j3 := gkeep g2 j3; replace j4 := gfree g2 j4; replace j5 := gfree g2 j5)))
  all_goals
    go_wp2
    simp [bodyPost, results, Try.results41, go_sem, j2, j3]
    exact (((((Grown.refl _).alloc _ _).alloc _ _).drew.trans3 (g1.trans3 g2)).setCell (Nat.le_succ _) _).setCell (Nat.le_succ _) _

theorem size_bits (x : BitVec 128) (k : Nat) (hk : k ≤ 128) (h : ∀ j, j < k → bitW x j = 0) : x.toNat < 2 ^ (128 - k) := by
  have e : numB (bitW x) k = 0 := by
    have z : ∀ m, numB (fun _ => 0) m = 0 := by intro m; induction m with
      | zero => rfl
      | succ m ih => unfold numB; rw [ih]; rfl
    rw [numB_congr k h, z]
  rw [numB_bits x k hk] at e
  have p : 0 < 2 ^ (128 - k) := Nat.two_pow_pos _
  exact (Nat.div_eq_zero_iff_lt p).1 e
theorem size_at (x : BitVec 128) (k : Nat) (hk : k < 128) (h : ∀ j, j < k → bitW x j = 0) (h1 : bitW x k = 1) : sizeW x = 128 - k := by
  have a := (sizeW_iff x (128 - k)).2 (size_bits x k (by omega) h)
  have b : ¬ sizeW x ≤ 127 - k := by
    intro q
    have q2 := (sizeW_iff x (127 - k)).1 q
    unfold bitW at h1
    rw [Nat.div_eq_of_lt q2] at h1
    exact absurd h1 (by decide)
  omega
theorem size_none (x : BitVec 128) (h : ∀ j, j < 128 → bitW x j = 0) : sizeW x = 0 := by
  have := (sizeW_iff x (128 - 128)).2 (size_bits x 128 (Nat.le_refl _) h)
  omega

set_option maxRecDepth 100000 in
set_option maxHeartbeats 2000000 in
theorem rsize_c {ah al r : Int} (x : BitVec 128) (hx : IsW ah al x) (hr : (sizeW x : Int) = r) (w : World) :
    Calls Try.prog 42 #[.agg #[.int .u64 ah, .int .u64 al]] w fun e w' => e = .returned (.int .i64 r) ∧ Grown w w' := by
  have HR := Lib.hid hr
  clear hr
  have G : Grown w (w.alloc (.cells #[.int .u64 ah, .int .u64 al] 24)) := (Grown.refl _).alloc _ _
  go_enter Try.func42, Try.ntmps42
  go_wp2_with (go_at_call 48; ((with_reducible refine (bits_c x hx _).mono ?_); rintro e w' ⟨⟨BA, rfl, hA0, hA1, RA⟩, g'⟩))
  go_loop [4] (fun i => ∃ k : Nat, k ≤ 128 ∧ i = .int .i64 (k : Int) ∧ ∀ j, j < k → bitW x j = 0) (fun i => 128 - (intOf i).toNat)
  case atStart => exact ⟨0, by omega, by simp, fun j hj => by omega⟩
  case round =>
    obtain ⟨k, hk, rfl, hz⟩ := hrel
    by_cases hlt : k < 128
    · have hi : (k : Int) < 128 := by omega
      have hi0 : (0 : Int) ≤ (k : Int) := by omega
      have d0 := RA.cell k hlt
      have HZ : Hid (∀ j, j < k → bitW x j = 0) := hz
      clear hz
      have b0 := bitW_01 x k
      obtain ⟨p, hp⟩ : ∃ p : Int, bitW x k = p := ⟨_, rfl⟩
      rw [hp] at d0 b0
      have HP := Lib.hid hp
      clear hp
      have hp : p = 0 ∨ p = 1 := by omega
      clear b0
      rcases hp with rfl | rfl
      · go_wp2
        go_round
        case rel =>
          refine ⟨k + 1, by omega, by go_num, fun j hj => ?_⟩
          by_cases q : j = k
          · subst q; exact HP.out
          · exact HZ.out j (by omega)
        case measure => simp [intOf]; omega
      · go_wp2
        go_ret
        have e := size_at x k hlt HZ.out HP.out
        have r' := HR.out
        rw [e] at r'
        obtain rfl : r = 128 - (k : Int) := by omega
        exact ⟨rfl, G.trans3 g'⟩
    · obtain rfl : k = 128 := by omega
      have e := size_none x hz
      have r' := HR.out
      rw [e] at r'
      obtain rfl : r = 0 := by rw [← r']; rfl
      clear hz HR e r'
      go_wp2
      go_ret
      exact ⟨rfl, G.trans3 g'⟩

theorem cmp_eq (x y : BitVec 128) (h : ∀ j, j < 128 → bitW x j = bitW y j) : x = y := by
  have a := word_of_bits x (v := bitW y) (fun j hj => (h j hj).symm)
  rw [← a, word_of_bits y (fun j _ => rfl)]
theorem cmp_pre (x y : BitVec 128) (k : Nat) (hk : k ≤ 128) (h : ∀ j, j < k → bitW x j = bitW y j) : x.toNat / 2 ^ (128 - k) = y.toNat / 2 ^ (128 - k) := by
  rw [← numB_bits x k hk, ← numB_bits y k hk, numB_congr k h]
theorem cmp_at (x y : BitVec 128) (k : Nat) (hk : k < 128) (h : ∀ j, j < k → bitW x j = bitW y j) (hx : bitW x k = 0) (hy : bitW y k = 1) : x.toNat < y.toNat := by
  have e := cmp_pre x y k (by omega) h
  have a : x.toNat / 2 ^ (127 - k) % 2 = 0 := by unfold bitW at hx; omega
  have b : y.toNat / 2 ^ (127 - k) % 2 = 1 := by unfold bitW at hy; omega
  have q : 128 - k = (127 - k) + 1 := by omega
  rw [q, Nat.pow_succ, ← Nat.div_div_eq_div_mul, ← Nat.div_div_eq_div_mul] at e
  rcases Nat.lt_or_ge x.toNat y.toNat with l | l
  · exact l
  · exfalso
    have := Nat.div_le_div_right (c := 2 ^ (127 - k)) l
    omega

set_option maxRecDepth 100000 in
set_option maxHeartbeats 4000000 in
theorem rcompare_c {ah al bh bl r : Int} (x y : BitVec 128) (hx : IsW ah al x) (hy : IsW bh bl y) (hr : cmpW x y = r) (w : World) :
    Calls Try.prog 39 #[.agg #[.int .u64 ah, .int .u64 al], .agg #[.int .u64 bh, .int .u64 bl]] w fun e w' => e = .returned (.int .i64 r) ∧ Grown w w' := by
  have HR := Lib.hid hr
  clear hr
  go_enter Try.func39, Try.ntmps39
  go_wp2
  have k0 : ((w.alloc (.cells #[.int .u64 ah, .int .u64 al] 24)).alloc (.cells #[.int .u64 bh, .int .u64 bl] 24)).cell? ⟨w.heap.size, 0, none⟩ = some (.int .u64 ah) := by simp [go_sem]
  have k1 : ((w.alloc (.cells #[.int .u64 ah, .int .u64 al] 24)).alloc (.cells #[.int .u64 bh, .int .u64 bl] 24)).cell? ⟨w.heap.size, 1, none⟩ = some (.int .u64 al) := by simp [go_sem]
  have k2 : ((w.alloc (.cells #[.int .u64 ah, .int .u64 al] 24)).alloc (.cells #[.int .u64 bh, .int .u64 bl] 24)).cell? ⟨w.heap.size + 1, 0, none⟩ = some (.int .u64 bh) := by simp [go_sem]
  have k3 : ((w.alloc (.cells #[.int .u64 ah, .int .u64 al] 24)).alloc (.cells #[.int .u64 bh, .int .u64 bl] 24)).cell? ⟨w.heap.size + 1, 1, none⟩ = some (.int .u64 bl) := by simp [go_sem]
  have G : Grown w ((w.alloc (.cells #[.int .u64 ah, .int .u64 al] 24)).alloc (.cells #[.int .u64 bh, .int .u64 bl] 24)) := ((Grown.refl _).alloc _ _).alloc _ _
  generalize ((w.alloc (.cells #[.int .u64 ah, .int .u64 al] 24)).alloc (.cells #[.int .u64 bh, .int .u64 bl] 24)) = W at *
  go_region_held3 (fun w' => w'.cell? ⟨w.heap.size, 0, none⟩ = some (.int .u64 ah) ∧ w'.cell? ⟨w.heap.size, 1, none⟩ = some (.int .u64 al) ∧ w'.cell? ⟨w.heap.size + 1, 0, none⟩ = some (.int .u64 bh) ∧ w'.cell? ⟨w.heap.size + 1, 1, none⟩ = some (.int .u64 bl) ∧ Hid (Grown W w')) (first | assumption | exact ⟨k0, k1, k2, k3, (Grown.refl _).drew⟩ | ((refine emkS k0 k1 k2 k3 ?_); first | assumption | (refine Grown.trans3 ?_ ?_; rotate_left; assumption; assumption)))
    (first
      | (go_at_call 48; ((with_reducible refine (bits_c x hx _).mono ?_); rintro e w' ⟨⟨BA, rfl, hA0, hA1, RA⟩, g'⟩; have GA := esGrown g' (by assumption)))
      | (go_at_call 48; ((with_reducible refine (bits_c y hy _).mono ?_); rintro e w' ⟨⟨BB, rfl, hB0, hB1, RB⟩, g'⟩; have RA := RA.on g'; have GB := esGrown g' (by assumption))))
  go_wp2
  replace G := G.trans3 GB
  clear GA GB hA0 hA1 hB0 hB1 k0 k1 k2 k3
  go_loopw [7] (fun i wr => ∃ k : Nat, k ≤ 128 ∧ i = .int .i64 (k : Int) ∧ Row wr BA 128 (bitW x) ∧ Row wr BB 128 (bitW y) ∧ Grown w wr ∧ ∀ j, j < k → bitW x j = bitW y j) (fun i _ => 128 - (intOf i).toNat)
  case atStart => exact ⟨0, by omega, by simp, RA, RB, G, fun j hj => by omega⟩
  case round =>
    obtain ⟨k, hk, rfl, QA, QB, hG, hz⟩ := hrel
    by_cases hlt : k < 128
    · have hi : (k : Int) < 128 := by omega
      have hi0 : (0 : Int) ≤ (k : Int) := by omega
      have d0 := QA.cell k hlt
      have d1 := QB.cell k hlt
      have HZ : Hid (∀ j, j < k → bitW x j = bitW y j) := hz
      clear hz
      have b0 := bitW_01 x k
      have b1 := bitW_01 y k
      obtain ⟨p, hp⟩ : ∃ p : Int, bitW x k = p := ⟨_, rfl⟩
      obtain ⟨q, hq⟩ : ∃ q : Int, bitW y k = q := ⟨_, rfl⟩
      rw [hp] at d0 b0
      rw [hq] at d1 b1
      have HP := Lib.hid hp
      have HQ := Lib.hid hq
      clear hp hq
      have hp : p = 0 ∨ p = 1 := by omega
      have hq : q = 0 ∨ q = 1 := by omega
      clear b0 b1
      have next : bitW x k = bitW y k → ∀ j, j < k + 1 → bitW x j = bitW y j := by
        intro e j hj
        by_cases q : j = k
        · subst q; exact e
        · exact HZ.out j (by omega)
      have NX := Lib.hid next
      clear next
      rcases hp with rfl | rfl <;> rcases hq with rfl | rfl
      · go_wp2
        go_region
        go_wp2
        go_region
        go_wp2
        go_roundw
        case rel => exact ⟨k + 1, by omega, by go_num, QA.drew.drew, QB.drew.drew, hG.drew.drew, NX.out (HP.out.trans HQ.out.symm)⟩
        case measure => simp [intOf]; omega
      · obtain rfl : r = -1 := by rw [← HR.out]; exact cmpW_lt (cmp_at x y k hlt HZ.out HP.out HQ.out)
        go_wp2
        go_region
        go_wp2
        go_ret
        exact ⟨rfl, hG.drew⟩
      · obtain rfl : r = 1 := by rw [← HR.out]; exact cmpW_gt (cmp_at y x k hlt (fun j hj => (HZ.out j hj).symm) HQ.out HP.out)
        go_wp2
        go_region
        go_wp2
        go_region
        go_wp2
        go_ret
        exact ⟨rfl, hG.drew.drew⟩
      · go_wp2
        go_region
        go_wp2
        go_region
        go_wp2
        go_roundw
        case rel => exact ⟨k + 1, by omega, by go_num, QA.drew.drew, QB.drew.drew, hG.drew.drew, NX.out (HP.out.trans HQ.out.symm)⟩
        case measure => simp [intOf]; omega
    · obtain rfl : k = 128 := by omega
      have e := cmp_eq x y hz
      obtain rfl : r = 0 := by rw [← HR.out, cmpW_eq e]
      clear hz HR e
      go_wp2
      go_ret
      exact ⟨rfl, hG⟩

end Go.Proofs.Ytjhfkmjaobleiaa
