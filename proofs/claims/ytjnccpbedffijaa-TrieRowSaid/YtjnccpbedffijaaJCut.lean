/- Of the document's package 11: Cut: by a walk of its code. -/
import Derived.Test.YtjnccpbedffijaaJRef
import Derived.Deep.RegionLaw
namespace Go.Proofs.Ytjnccpbedffijaa
set_option linter.unusedVariables false
open Go.ChangeShapes Go.WideShapes Go.ChangeAt Go.RowKit Go.Joins

/-- What the first k bits of a byte come to, each at its place. -/
def sumB (f : Nat → Nat) (j : Nat) : Nat → Nat
  | 0 => 0
  | k + 1 => sumB f j k + f (8 * j + k) * 2 ^ (7 - k)
theorem sumB_8 (f : Nat → Nat) (j : Nat) : sumB f j 8 = byteB f j := by
  unfold byteB; simp only [sumB, Nat.add_zero]; omega
theorem sumB_lt (f : Nat → Nat) (j : Nat) (h : ∀ k, f k ≤ 1) : ∀ k, k ≤ 8 → sumB f j k + 2 ^ (8 - k) ≤ 256
  | 0, _ => by show 0 + 2 ^ 8 ≤ 256; decide
  | k + 1, hk => by
    have ih := sumB_lt f j h k (by omega)
    have e : 2 ^ (8 - k) = 2 * 2 ^ (8 - (k + 1)) := by rw [← Nat.pow_succ']; congr 1; omega
    have e2 : 7 - k = 8 - (k + 1) := by omega
    have q := h (8 * j + k)
    show sumB f j k + f (8 * j + k) * 2 ^ (7 - k) + 2 ^ (8 - (k + 1)) ≤ 256
    rw [e] at ih
    rw [e2]
    have : f (8 * j + k) * 2 ^ (8 - (k + 1)) ≤ 1 * 2 ^ (8 - (k + 1)) := Nat.mul_le_mul_right _ q
    omega
theorem sumB_zero (f : Nat → Nat) (j : Nat) : ∀ k d, (∀ i, k ≤ i → i < k + d → f (8 * j + i) = 0) → sumB f j (k + d) = sumB f j k
  | k, 0, h => rfl
  | k, d + 1, h => by
    show sumB f j (k + d) + f (8 * j + (k + d)) * 2 ^ (7 - (k + d)) = _
    rw [h (k + d) (by omega) (by omega), sumB_zero f j k d (fun i h1 h2 => h i h1 (by omega))]; omega
/-- The bytes behind i bits. -/
def rowB (f : Nat → Nat) (i j : Nat) : Nat := sumB f j (min 8 (i - 8 * j))
theorem rowB_step (f : Nat → Nat) (i j : Nat) : rowB f (i + 1) j = if j = i / 8 then rowB f i j + f i * 2 ^ (7 - i % 8) else rowB f i j := by
  unfold rowB
  by_cases c : j = i / 8
  · subst c
    rw [if_pos rfl]
    have e1 : min 8 (i + 1 - 8 * (i / 8)) = i % 8 + 1 := by omega
    have e2 : min 8 (i - 8 * (i / 8)) = i % 8 := by omega
    have e3 : 8 * (i / 8) + i % 8 = i := by omega
    rw [e1, e2]
    show sumB f (i / 8) (i % 8) + f (8 * (i / 8) + i % 8) * _ = _
    rw [e3]
  · rw [if_neg c]
    congr 1; omega
set_option maxHeartbeats 2000000 in
theorem jcut_c {key : ByteArray} {bs : List Bool} (hb : IsKey key bs) (w : World) :
    Calls Try.prog 20 #[.string key, .int .i64 (bs.length : Int)] w fun e w' => e = .returned (.string key) ∧ Wider w w' := by
  obtain ⟨m, hm⟩ : ∃ m, bs.length = m := ⟨_, rfl⟩
  have m2 : m ≤ 256 := by have := hb.few; omega
  have ml : m ≤ 8 * key.size := by have := hb.long; omega
  have ks := hb.size_le
  rw [hm]
  obtain ⟨q, hq⟩ : ∃ q, (m + 7) / 8 = q := ⟨_, rfl⟩
  have mq : m ≤ 8 * q := by omega
  have i0 : IntKind.i64.wrap ((m : Int) + 7) = (m : Int) + 7 := by simp [IntKind.wrap, IntKind.bits, IntKind.signed]; omega
  have i1 : ((m : Int) + 7) / 8 = (q : Int) := by omega
  have hmk := makeN q (by omega) w
  have HM := Lib.hid hm
  have HB := Lib.hid hb
  have HQ := Lib.hid hq
  clear hm hb hq
  have B0 := Bts.made w q
  have g0 := (Wider.refl w).alloc (.cells (zerosN q) 5)
  obtain ⟨W, hW⟩ : ∃ W, w.alloc (.cells (zerosN q) 5) = W := ⟨_, rfl⟩
  rw [hW] at hmk B0 g0
  obtain ⟨B, hBB⟩ : ∃ B, w.heap.size = B := ⟨_, rfl⟩
  rw [hBB] at hmk B0
  have hBl : w.heap.size ≤ B := by omega
  have HBB := Lib.hid hBB
  clear hBB
  go_enter Try.func20, Try.ntmps20
  go_wp2
  go_loopw [6] (fun i wr => Wider w wr ∧ ∃ k : Nat, k ≤ m ∧ i = .int .i64 (k : Int) ∧ Bts wr B q (fun j => (rowB (bitS key) k j : Int))) (fun i _ => m - (intOf i).toNat)
  case atStart => exact ⟨g0, 0, Nat.zero_le _, rfl, B0.congr fun j hj => by unfold rowB; rw [Nat.zero_sub]; rfl⟩
  case round =>
    clear B0 g0 hmk i1 i0
    obtain ⟨g, k, k0, rfl, hB⟩ := hrel
    by_cases c : k < m
    · have q1 : (k : Int) < (m : Int) := by omega
      obtain ⟨b, hbk⟩ : ∃ b, bitS key k = b := ⟨_, rfl⟩
      have b1 : b ≤ 1 := by rw [← hbk]; exact bitS_le key k
      have z1 := fun w => bit_c key k (by omega) (by omega) hbk w
      have kj : k / 8 < q := by omega
      have c0 := hB.cell (k / 8) kj
      have f0 := hB.free (k / 8) kj
      have st := rowB_step (bitS key) k (k / 8)
      rw [if_pos rfl, hbk] at st
      have lt : rowB (bitS key) (k + 1) (k / 8) < 256 := by
        have := sumB_lt (bitS key) (k / 8) (bitS_le key) (min 8 (k + 1 - 8 * (k / 8))) (by omega)
        have := Nat.one_le_two_pow (n := 8 - min 8 (k + 1 - 8 * (k / 8)))
        unfold rowB; omega
      obtain ⟨X, hX⟩ : ∃ X, rowB (bitS key) k (k / 8) = X := ⟨_, rfl⟩
      obtain ⟨Y, hY⟩ : ∃ Y, b * 2 ^ (7 - k % 8) = Y := ⟨_, rfl⟩
      rw [hX, hY] at st
      rw [st] at lt
      rw [hX] at c0
      have hBn : Bts (wr.setCell ⟨B, k / 8, none⟩ (.int .u8 ((X : Int) + (Y : Int)))) B q (fun j => (rowB (bitS key) (k + 1) j : Int)) := hB.put kj fun j hj => by
        by_cases e : j = k / 8
        · rw [if_pos e, e, st]; exact Int.natCast_add X Y
        · rw [if_neg e, rowB_step, if_neg e]
      have gn : Wider w (wr.setCell ⟨B, k / 8, none⟩ (.int .u8 ((X : Int) + (Y : Int)))) := g.setCell hBl _
      have j0 : (0 : Int) ≤ (k : Int) / 8 := by omega
      have j1 : (k : Int) / 8 < (q : Int) := by omega
      have j2 : ((k : Int) / 8).toNat = k / 8 := by omega
      have w1 : IntKind.i64.wrap ((k : Int) / 8) = (k : Int) / 8 := by simp [IntKind.wrap, IntKind.bits, IntKind.signed]; omega
      have t1 : (k : Int).tmod 8 = (k : Int) % 8 := Int.tmod_eq_emod_of_nonneg (by omega)
      have r1 : IntKind.i64.wrap (7 - (k : Int) % 8) = 7 - (k : Int) % 8 := by simp [IntKind.wrap, IntKind.bits, IntKind.signed]; omega
      have r2 : IntKind.u64.wrap (7 - (k : Int) % 8) = 7 - (k : Int) % 8 := by simp [IntKind.wrap, IntKind.bits, IntKind.signed]; omega
      have r3 : (7 - (k : Int) % 8).toNat = 7 - k % 8 := by omega
      have r4 : IntKind.u8.wrap (b : Int) = (b : Int) := by simp [IntKind.wrap, IntKind.bits, IntKind.signed]; omega
      have r5 : IntKind.u8.wrap ((b : Int) * 2 ^ (7 - k % 8)) = (Y : Int) := by
        have e : (b : Int) * 2 ^ (7 - k % 8) = (Y : Int) := by rw [← hY]; simp
        rw [e]; simp [IntKind.wrap, IntKind.bits, IntKind.signed]; omega
      have r6 : IntKind.u8.wrap ((X : Int) + (Y : Int)) = (X : Int) + (Y : Int) := by simp [IntKind.wrap, IntKind.bits, IntKind.signed]; omega
      have HBN := Lib.hid hBn
      have GN := Lib.hid gn
      clear hBn gn hbk st hX hY
      go_upto_region 5 with (fail)
      go_region_law (first
        | (go_simp; go_at_call 31; ((with_reducible refine (z1 _).mono ?_); rintro e w2 ⟨rfl, rfl⟩)))
      all_goals
        go_wp2
        go_roundw
        case rel => exact ⟨GN.out, k + 1, by omega, by go_num, HBN.out.on (Wider.refl _).drew⟩
        case measure => simp [intOf]; omega
    · have q1 : ¬ (k : Int) < (m : Int) := by omega
      have hT : strOfNums ((List.range q).map fun j => (rowB (bitS key) k j : Int)) = key := by
        have hs : key.size = q := by rw [HB.out.size, HM.out, HQ.out]
        have e := textB_self key
        rw [hs] at e
        refine Eq.trans (b := textB (bitS key) q) ?_ e
        unfold textB
        congr 1
        refine List.map_congr_left fun j hj => ?_
        have hj := List.mem_range.1 hj
        have hk : k = m := by omega
        show (rowB (bitS key) k j : Int) = (byteB (bitS key) j : Int)
        rw [← sumB_8]
        unfold rowB
        by_cases d : 8 ≤ k - 8 * j
        · rw [Nat.min_eq_left d]
        · have e8 : (8 : Nat) = (k - 8 * j) + (8 - (k - 8 * j)) := by omega
          have z := sumB_zero (bitS key) j (k - 8 * j) (8 - (k - 8 * j)) (fun i h1 h2 => by
            have hr : 8 * j + i < 8 * key.size := by omega
            rw [HB.out.bit _ hr, List.getD_eq_getElem?_getD, List.getElem?_eq_none (by rw [HM.out]; omega)]; rfl)
          rw [← e8] at z
          rw [Nat.min_eq_right (by omega), z]
      have hcv := hB.conv q hT
      go_wp2
      go_ret
      exact ⟨rfl, g⟩
end Go.Proofs.Ytjnccpbedffijaa
