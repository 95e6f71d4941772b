/- What the document's answers And, Or, Xor, Not of layer 1 do: bit by bit, by a table. -/
import Derived.Test.YtjhfkmjaobleiaaRefK
import Derived.Lib.Hide
import Derived.RegionTactic
import Derived.BigRegion
import Derived.Deep.RegionHeld3
namespace Go.Proofs.Ytjhfkmjaobleiaa
set_option linter.unusedVariables false
open Go.RowKit

theorem emkS {W w : World} {a b c d : Addr} {p q r s : Value} (ka : W.cell? a = some p) (kb : W.cell? b = some q) (kc : W.cell? c = some r) (kd : W.cell? d = some s) (g : Grown W w) :
    w.cell? a = some p ∧ w.cell? b = some q ∧ w.cell? c = some r ∧ w.cell? d = some s ∧ Hid (Grown W w) := ⟨gkeep g ka, gkeep g kb, gkeep g kc, gkeep g kd, g⟩
theorem esGrown {W w v : World} {a b c d : Addr} {p q r s : Value} (g : Grown w v) (h : w.cell? a = some p ∧ w.cell? b = some q ∧ w.cell? c = some r ∧ w.cell? d = some s ∧ Hid (Grown W w)) : Grown W v := h.2.2.2.2.out.trans3 g
/-- The cell of the table for two bits. -/
def tbl (t0 t1 t2 t3 p q : Int) : Int := if p = 0 then (if q = 0 then t0 else t1) else (if q = 0 then t2 else t3)
/-- A table of four cells, in a block. -/
structure Tb (w : World) (B : Nat) (t0 t1 t2 t3 : Int) : Prop where
  c0 : w.cell? ⟨B, 0, none⟩ = some (.int .u8 t0)
  c1 : w.cell? ⟨B, 1, none⟩ = some (.int .u8 t1)
  c2 : w.cell? ⟨B, 2, none⟩ = some (.int .u8 t2)
  c3 : w.cell? ⟨B, 3, none⟩ = some (.int .u8 t3)
theorem Tb.on {w w' : World} {B : Nat} {t0 t1 t2 t3 : Int} (h : Tb w B t0 t1 t2 t3) (g : Grown w w') : Tb w' B t0 t1 t2 t3 := ⟨gkeep g h.c0, gkeep g h.c1, gkeep g h.c2, gkeep g h.c3⟩
theorem Tb.drew {w : World} {B : Nat} {t0 t1 t2 t3 : Int} (h : Tb w B t0 t1 t2 t3) : Tb w.drew B t0 t1 t2 t3 := ⟨h.c0, h.c1, h.c2, h.c3⟩
theorem Tb.put {w : World} {B O k : Nat} {v : Value} {t0 t1 t2 t3 : Int} (h : Tb w B t0 t1 t2 t3) (ne : O ≠ B) : Tb (w.setCell ⟨O, k, none⟩ v) B t0 t1 t2 t3 := by
  have n : ∀ i : Nat, (⟨O, k, none⟩ : Addr) ≠ ⟨B, i, none⟩ := by intro i q; injection q with q1; exact ne q1
  exact ⟨by rw [cother (n 0)]; exact h.c0, by rw [cother (n 1)]; exact h.c1, by rw [cother (n 2)]; exact h.c2, by rw [cother (n 3)]; exact h.c3⟩

set_option maxHeartbeats 4000000 in
theorem each_c {ah al bh bl rh rl : Int} (x y z : BitVec 128) (t0 t1 t2 t3 : Int) (hx : IsW ah al x) (hy : IsW bh bl y) (hr : IsW rh rl z)
    (ht : ∀ j, j < 128 → bitW z j = tbl t0 t1 t2 t3 (bitW x j) (bitW y j)) (w : World) :
    Calls Try.prog 50 #[.agg #[.int .u64 ah, .int .u64 al], .agg #[.int .u64 bh, .int .u64 bl], .agg #[.int .u8 t0, .int .u8 t1, .int .u8 t2, .int .u8 t3]] w fun e w' => e = .returned (.agg #[.int .u64 rh, .int .u64 rl]) ∧ Grown w w' := by
  go_enter Try.func50, Try.ntmps50
  go_wp2
  have k0 : ((((w.alloc (.cells #[.int .u64 ah, .int .u64 al] 24)).alloc (.cells #[.int .u64 bh, .int .u64 bl] 24)).alloc (.cells #[.int .u8 t0, .int .u8 t1, .int .u8 t2, .int .u8 t3] 54)).alloc (.cells #[.int .u64 0, .int .u64 0] 24)).cell? ⟨w.heap.size, 0, none⟩ = some (.int .u64 ah) := by simp [go_sem]
  have k1 : ((((w.alloc (.cells #[.int .u64 ah, .int .u64 al] 24)).alloc (.cells #[.int .u64 bh, .int .u64 bl] 24)).alloc (.cells #[.int .u8 t0, .int .u8 t1, .int .u8 t2, .int .u8 t3] 54)).alloc (.cells #[.int .u64 0, .int .u64 0] 24)).cell? ⟨w.heap.size, 1, none⟩ = some (.int .u64 al) := by simp [go_sem]
  have k2 : ((((w.alloc (.cells #[.int .u64 ah, .int .u64 al] 24)).alloc (.cells #[.int .u64 bh, .int .u64 bl] 24)).alloc (.cells #[.int .u8 t0, .int .u8 t1, .int .u8 t2, .int .u8 t3] 54)).alloc (.cells #[.int .u64 0, .int .u64 0] 24)).cell? ⟨w.heap.size + 1, 0, none⟩ = some (.int .u64 bh) := by simp [go_sem]
  have k3 : ((((w.alloc (.cells #[.int .u64 ah, .int .u64 al] 24)).alloc (.cells #[.int .u64 bh, .int .u64 bl] 24)).alloc (.cells #[.int .u8 t0, .int .u8 t1, .int .u8 t2, .int .u8 t3] 54)).alloc (.cells #[.int .u64 0, .int .u64 0] 24)).cell? ⟨w.heap.size + 1, 1, none⟩ = some (.int .u64 bl) := by simp [go_sem]
  have k4 : ((((w.alloc (.cells #[.int .u64 ah, .int .u64 al] 24)).alloc (.cells #[.int .u64 bh, .int .u64 bl] 24)).alloc (.cells #[.int .u8 t0, .int .u8 t1, .int .u8 t2, .int .u8 t3] 54)).alloc (.cells #[.int .u64 0, .int .u64 0] 24)).cell? ⟨w.heap.size + 3, 0, none⟩ = some (.int .u64 0) := by simp [go_sem]
  have f0 : ((((w.alloc (.cells #[.int .u64 ah, .int .u64 al] 24)).alloc (.cells #[.int .u64 bh, .int .u64 bl] 24)).alloc (.cells #[.int .u8 t0, .int .u8 t1, .int .u8 t2, .int .u8 t3] 54)).alloc (.cells #[.int .u64 0, .int .u64 0] 24)).frozen? ⟨w.heap.size + 3, 0, none⟩ = false := by simp [go_sem]
  have k5 : ((((w.alloc (.cells #[.int .u64 ah, .int .u64 al] 24)).alloc (.cells #[.int .u64 bh, .int .u64 bl] 24)).alloc (.cells #[.int .u8 t0, .int .u8 t1, .int .u8 t2, .int .u8 t3] 54)).alloc (.cells #[.int .u64 0, .int .u64 0] 24)).cell? ⟨w.heap.size + 3, 1, none⟩ = some (.int .u64 0) := by simp [go_sem]
  have f1 : ((((w.alloc (.cells #[.int .u64 ah, .int .u64 al] 24)).alloc (.cells #[.int .u64 bh, .int .u64 bl] 24)).alloc (.cells #[.int .u8 t0, .int .u8 t1, .int .u8 t2, .int .u8 t3] 54)).alloc (.cells #[.int .u64 0, .int .u64 0] 24)).frozen? ⟨w.heap.size + 3, 1, none⟩ = false := by simp [go_sem]
  have hT : Tb ((((w.alloc (.cells #[.int .u64 ah, .int .u64 al] 24)).alloc (.cells #[.int .u64 bh, .int .u64 bl] 24)).alloc (.cells #[.int .u8 t0, .int .u8 t1, .int .u8 t2, .int .u8 t3] 54)).alloc (.cells #[.int .u64 0, .int .u64 0] 24)) (w.heap.size + 2) t0 t1 t2 t3 := by constructor <;> simp [go_sem]
  have G : Grown w ((((w.alloc (.cells #[.int .u64 ah, .int .u64 al] 24)).alloc (.cells #[.int .u64 bh, .int .u64 bl] 24)).alloc (.cells #[.int .u8 t0, .int .u8 t1, .int .u8 t2, .int .u8 t3] 54)).alloc (.cells #[.int .u64 0, .int .u64 0] 24)) := ((((Grown.refl _).alloc _ _).alloc _ _).alloc _ _).alloc _ _
  have hsz : w.heap.size + 4 ≤ ((((w.alloc (.cells #[.int .u64 ah, .int .u64 al] 24)).alloc (.cells #[.int .u64 bh, .int .u64 bl] 24)).alloc (.cells #[.int .u8 t0, .int .u8 t1, .int .u8 t2, .int .u8 t3] 54)).alloc (.cells #[.int .u64 0, .int .u64 0] 24)).heap.size := by simp
  generalize ((((w.alloc (.cells #[.int .u64 ah, .int .u64 al] 24)).alloc (.cells #[.int .u64 bh, .int .u64 bl] 24)).alloc (.cells #[.int .u8 t0, .int .u8 t1, .int .u8 t2, .int .u8 t3] 54)).alloc (.cells #[.int .u64 0, .int .u64 0] 24)) = W at *
  go_region_held3 (fun w' => w'.cell? ⟨w.heap.size, 0, none⟩ = some (.int .u64 ah) ∧ w'.cell? ⟨w.heap.size, 1, none⟩ = some (.int .u64 al) ∧ w'.cell? ⟨w.heap.size + 1, 0, none⟩ = some (.int .u64 bh) ∧ w'.cell? ⟨w.heap.size + 1, 1, none⟩ = some (.int .u64 bl) ∧ Hid (Grown W w')) (first | assumption | exact ⟨k0, k1, k2, k3, (Grown.refl _).drew⟩ | ((refine emkS k0 k1 k2 k3 ?_); first | assumption | (refine Grown.trans3 ?_ ?_; rotate_left; assumption; assumption)))
    (first
      | (go_at_call 48; ((with_reducible refine (bits_c x hx _).mono ?_); rintro e w' ⟨⟨BA, rfl, hA0, hA1, RA⟩, g'⟩; have GA := esGrown g' (by assumption)))
      | (go_at_call 48; ((with_reducible refine (bits_c y hy _).mono ?_); rintro e w' ⟨⟨BB, rfl, hB0, hB1, RB⟩, g'⟩; have RA := RA.on g'; have hA2 := Nat.lt_of_lt_of_le hA1 g'.2.2; have GB := esGrown g' (by assumption)))
      | (go_at_call 48; ((with_reducible refine (bits_c y hy _).mono ?_); rintro e w' ⟨⟨BB, rfl, hB0, hB1, RB⟩, g'⟩; have GB := esGrown g' (by assumption))))
  have hmk := make128
  have hL := Lx.start (w := w) (R := w.heap.size + 3) RA RB hA2 hB1 (gkeep GB k4) (gkeep GB k5) (gfree GB f0) (gfree GB f1) (G.trans3 GB) (by omega)
  have hT2 := (hT.on GB).on ((Grown.refl w').alloc zeros128 5)
  have hTO : w'.heap.size ≠ w.heap.size + 2 := by have := GB.2.2; omega
  go_wp2
  clear hmk
  generalize (w'.alloc (.cells zeros128 5)) = V at *
  generalize w'.heap.size = O at *
  clear GA GB hT hA0 hA1 hB0 hB1 hA2
  go_loopw [10] (fun i wr => ∃ k : Nat, k ≤ 128 ∧ i = .int .i64 (k : Int) ∧ Tb wr (w.heap.size + 2) t0 t1 t2 t3 ∧ Lx w (w.heap.size + 3) BA BB O x y (fun j => if j < k then bitW z j else 0) wr) (fun i _ => 128 - (intOf i).toNat)
  case atStart => exact ⟨0, by omega, by simp, hT2, hL.congr (fun j hj => by rw [if_neg (by omega)])⟩
  case round =>
    obtain ⟨k, hk, rfl, hT, hL⟩ := hrel
    by_cases hlt : k < 128
    · have hi : (k : Int) < 128 := by omega
      have hi0 : (0 : Int) ≤ (k : Int) := by omega
      have e1 := ht k hlt
      have d0 := hL.ra.cell k (by omega)
      have d1 := hL.rb.cell k (by omega)
      have d2 := hL.ro.cell k (by omega)
      have f2 := hL.ro.free k
      have b0 := bitW_01 x k
      have b1 := bitW_01 y k
      have T0 := hT.c0
      have T1 := hT.c1
      have T2 := hT.c2
      have T3 := hT.c3
      obtain ⟨p, hp⟩ : ∃ p : Int, bitW x k = p := ⟨_, rfl⟩
      obtain ⟨q, hq⟩ : ∃ q : Int, bitW y k = q := ⟨_, rfl⟩
      rw [hp] at d0 b0 e1
      rw [hq] at d1 b1 e1
      clear hp hq
      have hp : p = 0 ∨ p = 1 := by omega
      have hq : q = 0 ∨ q = 1 := by omega
      clear b0 b1
      have E1 := Lib.hid e1
      clear e1
      have fin : ∀ u : Int, bitW z k = u → Lx w (w.heap.size + 3) BA BB O x y (fun j => if j < k + 1 then bitW z j else 0) (wr.setCell ⟨O, k, none⟩ (.int .u8 u)) := by
        intro u hu
        refine hL.put hlt (fun j hj => ?_)
        by_cases e : j = k
        · subst e; rw [if_pos (by omega), if_pos rfl, hu]
        · rw [if_neg e]
          by_cases e3 : j < k
          · rw [if_pos e3, if_pos (by omega)]
          · rw [if_neg e3, if_neg (by omega)]
      have FIN := Lib.hid fin
      clear fin
      rcases hp with rfl | rfl <;> rcases hq with rfl | rfl
      all_goals
        go_wp2
        go_region
        go_wp2
        go_roundw
        case rel => exact ⟨k + 1, by omega, by go_num, (hT.put hTO).drew, (FIN.out _ (by first | (rw [E1.out]; done) | (rw [E1.out]; rfl))).drew⟩
        case measure => simp [intOf]; omega
    · obtain rfl : k = 128 := by omega
      have hv : ∀ j, j < 128 → 0 ≤ (if j < 128 then bitW z j else 0) ∧ (if j < 128 then bitW z j else 0) ≤ 1 := by
        intro j hj; rw [if_pos hj]; exact bitW_01 _ _
      have hw : IsW rh rl (BitVec.ofNat 128 (numB (fun j => if j < 128 then bitW z j else 0) 128)) := by
        rw [word_of_bits z (fun j hj => by rw [if_pos hj])]; exact hr
      have r0 := hL.r0
      have r1 := hL.r1
      have s0 := hL.s0
      have s1 := hL.s1
      go_wp2_with (go_at_call 49; ((with_reducible refine (word_c _ 128 128 _ _ hL.lt (by decide) hL.ro hv hw).mono ?_); rintro e w9 ⟨rfl, g9⟩; replace r0 := gkeep g9 r0; replace r1 := gkeep g9 r1; replace s0 := gfree g9 s0; replace s1 := gfree g9 s1))
      simp [bodyPost, results, Try.results50, go_sem, r0, r1]
      exact ((hL.grown.trans3 g9).setCell hL.hR _).setCell hL.hR _

theorem bits_rand_c (x y : BitVec 128) (j : Nat) (h : j < 128) : bitW (x &&& y) j = tbl 0 0 0 1 (bitW x j) (bitW y j) := by
  rw [bitW_lsb _ _ h, bitW_lsb _ _ h, bitW_lsb _ _ h, BitVec.getLsbD_and]
  cases x.getLsbD (127 - j) <;> cases y.getLsbD (127 - j) <;> rfl
set_option maxHeartbeats 1000000 in
theorem rand_c {ah al bh bl rh rl : Int} (x y : BitVec 128) (hx : IsW ah al x) (hy : IsW bh bl y) (hr : IsW rh rl (x &&& y)) (w : World) :
    Calls Try.prog 31 #[.agg #[.int .u64 ah, .int .u64 al], .agg #[.int .u64 bh, .int .u64 bl]] w fun e w' => e = .returned (.agg #[.int .u64 rh, .int .u64 rl]) ∧ Grown w w' := by
  go_enter Try.func31, Try.ntmps31
  go_wp2_with (go_at_call 50; ((with_reducible refine (each_c x y (x &&& y) 0 0 0 1 hx hy hr (bits_rand_c x y) _).mono ?_); rintro e w1 ⟨rfl, g1⟩; have r0 := gkeep g1 (a := ⟨w.heap.size + 2, 0, none⟩) (v := .int .u64 0) (by simp [go_sem]); have r1 := gkeep g1 (a := ⟨w.heap.size + 2, 1, none⟩) (v := .int .u64 0) (by simp [go_sem]); have s0 := gfree g1 (a := ⟨w.heap.size + 2, 0, none⟩) (by simp [go_sem]); have s1 := gfree g1 (a := ⟨w.heap.size + 2, 1, none⟩) (by simp [go_sem])))
  simp [bodyPost, results, Try.results31, go_sem, r0, r1]
  exact (((((Grown.refl _).alloc _ _).alloc _ _).alloc _ _).trans3 g1).setCell (by show w.heap.size ≤ w.heap.size + 2; omega) _ |>.setCell (by show w.heap.size ≤ w.heap.size + 2; omega) _

theorem bits_ror_c (x y : BitVec 128) (j : Nat) (h : j < 128) : bitW (x ||| y) j = tbl 0 1 1 1 (bitW x j) (bitW y j) := by
  rw [bitW_lsb _ _ h, bitW_lsb _ _ h, bitW_lsb _ _ h, BitVec.getLsbD_or]
  cases x.getLsbD (127 - j) <;> cases y.getLsbD (127 - j) <;> rfl
set_option maxHeartbeats 1000000 in
theorem ror_c {ah al bh bl rh rl : Int} (x y : BitVec 128) (hx : IsW ah al x) (hy : IsW bh bl y) (hr : IsW rh rl (x ||| y)) (w : World) :
    Calls Try.prog 33 #[.agg #[.int .u64 ah, .int .u64 al], .agg #[.int .u64 bh, .int .u64 bl]] w fun e w' => e = .returned (.agg #[.int .u64 rh, .int .u64 rl]) ∧ Grown w w' := by
  go_enter Try.func33, Try.ntmps33
  go_wp2_with (go_at_call 50; ((with_reducible refine (each_c x y (x ||| y) 0 1 1 1 hx hy hr (bits_ror_c x y) _).mono ?_); rintro e w1 ⟨rfl, g1⟩; have r0 := gkeep g1 (a := ⟨w.heap.size + 2, 0, none⟩) (v := .int .u64 0) (by simp [go_sem]); have r1 := gkeep g1 (a := ⟨w.heap.size + 2, 1, none⟩) (v := .int .u64 0) (by simp [go_sem]); have s0 := gfree g1 (a := ⟨w.heap.size + 2, 0, none⟩) (by simp [go_sem]); have s1 := gfree g1 (a := ⟨w.heap.size + 2, 1, none⟩) (by simp [go_sem])))
  simp [bodyPost, results, Try.results33, go_sem, r0, r1]
  exact (((((Grown.refl _).alloc _ _).alloc _ _).alloc _ _).trans3 g1).setCell (by show w.heap.size ≤ w.heap.size + 2; omega) _ |>.setCell (by show w.heap.size ≤ w.heap.size + 2; omega) _

theorem bits_rxor_c (x y : BitVec 128) (j : Nat) (h : j < 128) : bitW (x ^^^ y) j = tbl 0 1 1 0 (bitW x j) (bitW y j) := by
  rw [bitW_lsb _ _ h, bitW_lsb _ _ h, bitW_lsb _ _ h, BitVec.getLsbD_xor]
  cases x.getLsbD (127 - j) <;> cases y.getLsbD (127 - j) <;> rfl
set_option maxHeartbeats 1000000 in
theorem rxor_c {ah al bh bl rh rl : Int} (x y : BitVec 128) (hx : IsW ah al x) (hy : IsW bh bl y) (hr : IsW rh rl (x ^^^ y)) (w : World) :
    Calls Try.prog 35 #[.agg #[.int .u64 ah, .int .u64 al], .agg #[.int .u64 bh, .int .u64 bl]] w fun e w' => e = .returned (.agg #[.int .u64 rh, .int .u64 rl]) ∧ Grown w w' := by
  go_enter Try.func35, Try.ntmps35
  go_wp2_with (go_at_call 50; ((with_reducible refine (each_c x y (x ^^^ y) 0 1 1 0 hx hy hr (bits_rxor_c x y) _).mono ?_); rintro e w1 ⟨rfl, g1⟩; have r0 := gkeep g1 (a := ⟨w.heap.size + 2, 0, none⟩) (v := .int .u64 0) (by simp [go_sem]); have r1 := gkeep g1 (a := ⟨w.heap.size + 2, 1, none⟩) (v := .int .u64 0) (by simp [go_sem]); have s0 := gfree g1 (a := ⟨w.heap.size + 2, 0, none⟩) (by simp [go_sem]); have s1 := gfree g1 (a := ⟨w.heap.size + 2, 1, none⟩) (by simp [go_sem])))
  simp [bodyPost, results, Try.results35, go_sem, r0, r1]
  exact (((((Grown.refl _).alloc _ _).alloc _ _).alloc _ _).trans3 g1).setCell (by show w.heap.size ≤ w.heap.size + 2; omega) _ |>.setCell (by show w.heap.size ≤ w.heap.size + 2; omega) _

theorem bits_not (x : BitVec 128) (j : Nat) (h : j < 128) : bitW (~~~ x) j = tbl 1 1 0 0 (bitW x j) (bitW x j) := by
  have h2 : 127 - j < 128 := by omega
  rw [bitW_lsb _ _ h, bitW_lsb _ _ h, BitVec.getLsbD_not]
  simp only [h2, decide_true, Bool.true_and]
  cases x.getLsbD (127 - j) <;> rfl
theorem rnot_c {ah al rh rl : Int} (x : BitVec 128) (hx : IsW ah al x) (hr : IsW rh rl (~~~ x)) (w : World) :
    Calls Try.prog 36 #[.agg #[.int .u64 ah, .int .u64 al]] w fun e w' => e = .returned (.agg #[.int .u64 rh, .int .u64 rl]) ∧ Grown w w' := by
  go_enter Try.func36, Try.ntmps36
  go_wp2_with (go_at_call 50; ((with_reducible refine (each_c x x (~~~ x) 1 1 0 0 hx hx hr (bits_not x) _).mono ?_); rintro e w1 ⟨rfl, g1⟩; have r0 := gkeep g1 (a := ⟨w.heap.size + 1, 0, none⟩) (v := .int .u64 0) (by simp [go_sem]); have r1 := gkeep g1 (a := ⟨w.heap.size + 1, 1, none⟩) (v := .int .u64 0) (by simp [go_sem]); have s0 := gfree g1 (a := ⟨w.heap.size + 1, 0, none⟩) (by simp [go_sem]); have s1 := gfree g1 (a := ⟨w.heap.size + 1, 1, none⟩) (by simp [go_sem])))
  simp [bodyPost, results, Try.results36, go_sem, r0, r1]
  exact ((((Grown.refl _).alloc _ _).alloc _ _).trans3 g1).setCell (by show w.heap.size ≤ w.heap.size + 1; omega) _ |>.setCell (by show w.heap.size ≤ w.heap.size + 1; omega) _

end Go.Proofs.Ytjhfkmjaobleiaa
