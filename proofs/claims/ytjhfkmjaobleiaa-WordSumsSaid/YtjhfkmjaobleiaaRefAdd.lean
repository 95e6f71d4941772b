/- What the document's answers Add and Sub of layer 1 do. -/
import Derived.Test.YtjhfkmjaobleiaaRefK
import Derived.Lib.Hide
import Derived.RegionTactic
import Derived.BigRegion
import Derived.Deep.RegionHeld3
namespace Go.Proofs.Ytjhfkmjaobleiaa
set_option linter.unusedVariables false
open Go.RowKit

theorem mkS {W w : World} {a b c d : Addr} {p q r s : Value} (ka : W.cell? a = some p) (kb : W.cell? b = some q) (kc : W.cell? c = some r) (kd : W.cell? d = some s) (g : Grown W w) :
    w.cell? a = some p ∧ w.cell? b = some q ∧ w.cell? c = some r ∧ w.cell? d = some s ∧ Hid (Grown W w) := ⟨gkeep g ka, gkeep g kb, gkeep g kc, gkeep g kd, g⟩
theorem sGrown {W w v : World} {a b c d : Addr} {p q r s : Value} (g : Grown w v) (h : w.cell? a = some p ∧ w.cell? b = some q ∧ w.cell? c = some r ∧ w.cell? d = some s ∧ Hid (Grown W w)) : Grown W v := h.2.2.2.2.out.trans3 g
set_option maxHeartbeats 2000000 in
theorem radd_c {ah al bh bl rh rl : Int} (x y : BitVec 128) (hx : IsW ah al x) (hy : IsW bh bl y) (hr : IsW rh rl (x + y)) (w : World) :
    Calls Try.prog 28 #[.agg #[.int .u64 ah, .int .u64 al], .agg #[.int .u64 bh, .int .u64 bl]] w fun e w' => e = .returned (.agg #[.int .u64 rh, .int .u64 rl]) ∧ Grown w w' := by
  go_enter Try.func28, Try.ntmps28
  go_wp2
  have k0 : (((w.alloc (.cells #[.int .u64 ah, .int .u64 al] 24)).alloc (.cells #[.int .u64 bh, .int .u64 bl] 24)).alloc (.cells #[.int .u64 0, .int .u64 0] 24)).cell? ⟨w.heap.size, 0, none⟩ = some (.int .u64 ah) := by simp [go_sem]
  have k1 : (((w.alloc (.cells #[.int .u64 ah, .int .u64 al] 24)).alloc (.cells #[.int .u64 bh, .int .u64 bl] 24)).alloc (.cells #[.int .u64 0, .int .u64 0] 24)).cell? ⟨w.heap.size, 1, none⟩ = some (.int .u64 al) := by simp [go_sem]
  have k2 : (((w.alloc (.cells #[.int .u64 ah, .int .u64 al] 24)).alloc (.cells #[.int .u64 bh, .int .u64 bl] 24)).alloc (.cells #[.int .u64 0, .int .u64 0] 24)).cell? ⟨w.heap.size + 1, 0, none⟩ = some (.int .u64 bh) := by simp [go_sem]
  have k3 : (((w.alloc (.cells #[.int .u64 ah, .int .u64 al] 24)).alloc (.cells #[.int .u64 bh, .int .u64 bl] 24)).alloc (.cells #[.int .u64 0, .int .u64 0] 24)).cell? ⟨w.heap.size + 1, 1, none⟩ = some (.int .u64 bl) := by simp [go_sem]
  have k4 : (((w.alloc (.cells #[.int .u64 ah, .int .u64 al] 24)).alloc (.cells #[.int .u64 bh, .int .u64 bl] 24)).alloc (.cells #[.int .u64 0, .int .u64 0] 24)).cell? ⟨w.heap.size + 2, 0, none⟩ = some (.int .u64 0) := by simp [go_sem]
  have k5 : (((w.alloc (.cells #[.int .u64 ah, .int .u64 al] 24)).alloc (.cells #[.int .u64 bh, .int .u64 bl] 24)).alloc (.cells #[.int .u64 0, .int .u64 0] 24)).cell? ⟨w.heap.size + 2, 1, none⟩ = some (.int .u64 0) := by simp [go_sem]
  have f0 : (((w.alloc (.cells #[.int .u64 ah, .int .u64 al] 24)).alloc (.cells #[.int .u64 bh, .int .u64 bl] 24)).alloc (.cells #[.int .u64 0, .int .u64 0] 24)).frozen? ⟨w.heap.size + 2, 0, none⟩ = false := by simp [go_sem]
  have f1 : (((w.alloc (.cells #[.int .u64 ah, .int .u64 al] 24)).alloc (.cells #[.int .u64 bh, .int .u64 bl] 24)).alloc (.cells #[.int .u64 0, .int .u64 0] 24)).frozen? ⟨w.heap.size + 2, 1, none⟩ = false := by simp [go_sem]
  have G : Grown w (((w.alloc (.cells #[.int .u64 ah, .int .u64 al] 24)).alloc (.cells #[.int .u64 bh, .int .u64 bl] 24)).alloc (.cells #[.int .u64 0, .int .u64 0] 24)) := (((Grown.refl _).alloc _ _).alloc _ _).alloc _ _
  generalize (((w.alloc (.cells #[.int .u64 ah, .int .u64 al] 24)).alloc (.cells #[.int .u64 bh, .int .u64 bl] 24)).alloc (.cells #[.int .u64 0, .int .u64 0] 24)) = W at *
  go_region_held3 (fun w' => w'.cell? ⟨w.heap.size, 0, none⟩ = some (.int .u64 ah) ∧ w'.cell? ⟨w.heap.size, 1, none⟩ = some (.int .u64 al) ∧ w'.cell? ⟨w.heap.size + 1, 0, none⟩ = some (.int .u64 bh) ∧ w'.cell? ⟨w.heap.size + 1, 1, none⟩ = some (.int .u64 bl) ∧ Hid (Grown W w')) (first | assumption | exact ⟨k0, k1, k2, k3, (Grown.refl _).drew⟩ | ((refine mkS k0 k1 k2 k3 ?_); first | assumption | (refine Grown.trans3 ?_ ?_; rotate_left; assumption; assumption)))
    (first
      | (go_at_call 48; ((with_reducible refine (bits_c x hx _).mono ?_); rintro e w' ⟨⟨BA, rfl, hA0, hA1, RA⟩, g'⟩; have GA := sGrown g' (by assumption)))
      | (go_at_call 48; ((with_reducible refine (bits_c y hy _).mono ?_); rintro e w' ⟨⟨BB, rfl, hB0, hB1, RB⟩, g'⟩; have RA := RA.on g'; have hA2 := Nat.lt_of_lt_of_le hA1 g'.2.2; have GB := sGrown g' (by assumption))))
  have hmk := make128
  have hL := Lx.start (w := w) (R := w.heap.size + 2) RA RB hA2 hB1 (gkeep GB k4) (gkeep GB k5) (gfree GB f0) (gfree GB f1) (G.trans3 GB) (by omega)
  go_wp2
  clear hmk
  generalize (w'.alloc (.cells zeros128 5)) = V at *
  generalize w'.heap.size = O at *
  clear GA GB
  go_loopw [8, 9] (fun c i wr => ∃ k : Nat, k ≤ 128 ∧ i = .int .i64 (127 - (k : Int)) ∧ c = .int .u8 (carry x.toNat y.toNat k : Int) ∧ Lx w (w.heap.size + 2) BA BB O x y (fun j => if 128 ≤ j + k then bitW (x + y) j else 0) wr) (fun _ i _ => (intOf i + 1).toNat)
  case atStart => exact ⟨0, by omega, by simp, by rw [carry_0]; rfl, hL.congr (fun j hj => by rw [if_neg (by omega)])⟩
  case round =>
    obtain ⟨k, hk, rfl, rfl, hL⟩ := hrel
    by_cases hlt : k < 128
    · have hi : (k : Int) ≤ 127 := by omega
      obtain ⟨e1, e2⟩ := add_digit x y k hlt
      have d0 := hL.ra.cell (127 - k) (by omega)
      have d1 := hL.rb.cell (127 - k) (by omega)
      have d2 := hL.ro.cell (127 - k) (by omega)
      have f2 := hL.ro.free (127 - k)
      have b0 := bitW_01 x (127 - k)
      have b1 := bitW_01 y (127 - k)
      have cl := carry_le x.toNat y.toNat k
      obtain ⟨p, hp⟩ : ∃ p : Int, bitW x (127 - k) = p := ⟨_, rfl⟩
      obtain ⟨q, hq⟩ : ∃ q : Int, bitW y (127 - k) = q := ⟨_, rfl⟩
      obtain ⟨c, hc⟩ : ∃ c : Int, (carry x.toNat y.toNat k : Int) = c := ⟨_, rfl⟩
      rw [hp] at d0 b0 e1 e2
      rw [hq] at d1 b1 e1 e2
      rw [hc] at e1 e2 ⊢
      have c0 : 0 ≤ c := by omega
      have c1 : c ≤ 1 := by omega
      obtain ⟨p0, p1⟩ := b0
      obtain ⟨q0, q1⟩ := b1
      have E1 := Lib.hid e1
      have E2 := Lib.hid e2
      have s1 : Hid (IntKind.u8.wrap (p + q) = p + q) := by show _ = _; rw [IntKind.wrap_u8]; omega
      have s2 : Hid (IntKind.u8.wrap (p + q + c) = p + q + c) := by show _ = _; rw [IntKind.wrap_u8]; omega
      clear e1 e2 hp hq hc cl
      go_wp2
      have s1' := s1.out
      have s2' := s2.out
      go_region
      clear s1' s2'
      go_wp2
      go_roundw
      case rel =>
        refine ⟨k + 1, by omega, ?_, by rw [E2.out], ?_⟩
        · rw [show (127 : Int) - (k : Int) - 1 = 127 - ((k + 1 : Nat) : Int) by omega]
        · refine (hL.put (k := 127 - k) (by omega) (fun j hj => ?_)).drew
          by_cases e : j = 127 - k
          · subst e
            rw [if_pos (by omega), if_pos rfl, E1.out]
          · rw [if_neg e]
            by_cases e3 : 128 ≤ j + k
            · rw [if_pos e3, if_pos (by omega)]
            · rw [if_neg e3, if_neg (by omega)]
      case measure => simp [intOf]; omega
    · obtain rfl : k = 128 := by omega
      have hv : ∀ j, j < 128 → 0 ≤ (if 128 ≤ j + 128 then bitW (x + y) j else 0) ∧ (if 128 ≤ j + 128 then bitW (x + y) j else 0) ≤ 1 := by
        intro j _; rw [if_pos (by omega)]; exact bitW_01 _ _
      have hw : IsW rh rl (BitVec.ofNat 128 (numB (fun j => if 128 ≤ j + 128 then bitW (x + y) j else 0) 128)) := by
        rw [word_of_bits (x + y) (fun j hj => by rw [if_pos (by omega)])]; exact hr
      have r0 := hL.r0
      have r1 := hL.r1
      have s0 := hL.s0
      have s1 := hL.s1
      go_wp2_with (go_at_call 49; ((with_reducible refine (word_c _ 128 128 _ _ hL.lt (by decide) hL.ro hv hw).mono ?_); rintro e w9 ⟨rfl, g9⟩; replace r0 := gkeep g9 r0; replace r1 := gkeep g9 r1; replace s0 := gfree g9 s0; replace s1 := gfree g9 s1))
      simp [bodyPost, results, Try.results28, go_sem, r0, r1]
      exact ((hL.grown.trans3 g9).setCell hL.hR _).setCell hL.hR _

set_option maxHeartbeats 2000000 in
theorem rsub_c {ah al bh bl rh rl : Int} (x y : BitVec 128) (hx : IsW ah al x) (hy : IsW bh bl y) (hr : IsW rh rl (x - y)) (w : World) :
    Calls Try.prog 29 #[.agg #[.int .u64 ah, .int .u64 al], .agg #[.int .u64 bh, .int .u64 bl]] w fun e w' => e = .returned (.agg #[.int .u64 rh, .int .u64 rl]) ∧ Grown w w' := by
  go_enter Try.func29, Try.ntmps29
  go_wp2
  have k0 : (((w.alloc (.cells #[.int .u64 ah, .int .u64 al] 24)).alloc (.cells #[.int .u64 bh, .int .u64 bl] 24)).alloc (.cells #[.int .u64 0, .int .u64 0] 24)).cell? ⟨w.heap.size, 0, none⟩ = some (.int .u64 ah) := by simp [go_sem]
  have k1 : (((w.alloc (.cells #[.int .u64 ah, .int .u64 al] 24)).alloc (.cells #[.int .u64 bh, .int .u64 bl] 24)).alloc (.cells #[.int .u64 0, .int .u64 0] 24)).cell? ⟨w.heap.size, 1, none⟩ = some (.int .u64 al) := by simp [go_sem]
  have k2 : (((w.alloc (.cells #[.int .u64 ah, .int .u64 al] 24)).alloc (.cells #[.int .u64 bh, .int .u64 bl] 24)).alloc (.cells #[.int .u64 0, .int .u64 0] 24)).cell? ⟨w.heap.size + 1, 0, none⟩ = some (.int .u64 bh) := by simp [go_sem]
  have k3 : (((w.alloc (.cells #[.int .u64 ah, .int .u64 al] 24)).alloc (.cells #[.int .u64 bh, .int .u64 bl] 24)).alloc (.cells #[.int .u64 0, .int .u64 0] 24)).cell? ⟨w.heap.size + 1, 1, none⟩ = some (.int .u64 bl) := by simp [go_sem]
  have k4 : (((w.alloc (.cells #[.int .u64 ah, .int .u64 al] 24)).alloc (.cells #[.int .u64 bh, .int .u64 bl] 24)).alloc (.cells #[.int .u64 0, .int .u64 0] 24)).cell? ⟨w.heap.size + 2, 0, none⟩ = some (.int .u64 0) := by simp [go_sem]
  have k5 : (((w.alloc (.cells #[.int .u64 ah, .int .u64 al] 24)).alloc (.cells #[.int .u64 bh, .int .u64 bl] 24)).alloc (.cells #[.int .u64 0, .int .u64 0] 24)).cell? ⟨w.heap.size + 2, 1, none⟩ = some (.int .u64 0) := by simp [go_sem]
  have f0 : (((w.alloc (.cells #[.int .u64 ah, .int .u64 al] 24)).alloc (.cells #[.int .u64 bh, .int .u64 bl] 24)).alloc (.cells #[.int .u64 0, .int .u64 0] 24)).frozen? ⟨w.heap.size + 2, 0, none⟩ = false := by simp [go_sem]
  have f1 : (((w.alloc (.cells #[.int .u64 ah, .int .u64 al] 24)).alloc (.cells #[.int .u64 bh, .int .u64 bl] 24)).alloc (.cells #[.int .u64 0, .int .u64 0] 24)).frozen? ⟨w.heap.size + 2, 1, none⟩ = false := by simp [go_sem]
  have G : Grown w (((w.alloc (.cells #[.int .u64 ah, .int .u64 al] 24)).alloc (.cells #[.int .u64 bh, .int .u64 bl] 24)).alloc (.cells #[.int .u64 0, .int .u64 0] 24)) := (((Grown.refl _).alloc _ _).alloc _ _).alloc _ _
  generalize (((w.alloc (.cells #[.int .u64 ah, .int .u64 al] 24)).alloc (.cells #[.int .u64 bh, .int .u64 bl] 24)).alloc (.cells #[.int .u64 0, .int .u64 0] 24)) = W at *
  go_region_held3 (fun w' => w'.cell? ⟨w.heap.size, 0, none⟩ = some (.int .u64 ah) ∧ w'.cell? ⟨w.heap.size, 1, none⟩ = some (.int .u64 al) ∧ w'.cell? ⟨w.heap.size + 1, 0, none⟩ = some (.int .u64 bh) ∧ w'.cell? ⟨w.heap.size + 1, 1, none⟩ = some (.int .u64 bl) ∧ Hid (Grown W w')) (first | assumption | exact ⟨k0, k1, k2, k3, (Grown.refl _).drew⟩ | ((refine mkS k0 k1 k2 k3 ?_); first | assumption | (refine Grown.trans3 ?_ ?_; rotate_left; assumption; assumption)))
    (first
      | (go_at_call 48; ((with_reducible refine (bits_c x hx _).mono ?_); rintro e w' ⟨⟨BA, rfl, hA0, hA1, RA⟩, g'⟩; have GA := sGrown g' (by assumption)))
      | (go_at_call 48; ((with_reducible refine (bits_c y hy _).mono ?_); rintro e w' ⟨⟨BB, rfl, hB0, hB1, RB⟩, g'⟩; have RA := RA.on g'; have hA2 := Nat.lt_of_lt_of_le hA1 g'.2.2; have GB := sGrown g' (by assumption))))
  have hmk := make128
  have hL := Lx.start (w := w) (R := w.heap.size + 2) RA RB hA2 hB1 (gkeep GB k4) (gkeep GB k5) (gfree GB f0) (gfree GB f1) (G.trans3 GB) (by omega)
  go_wp2
  clear hmk
  generalize (w'.alloc (.cells zeros128 5)) = V at *
  generalize w'.heap.size = O at *
  clear GA GB
  go_loopw [8, 9] (fun c i wr => ∃ k : Nat, k ≤ 128 ∧ i = .int .i64 (127 - (k : Int)) ∧ c = .int .u8 (carry (x - y).toNat y.toNat k : Int) ∧ Lx w (w.heap.size + 2) BA BB O x y (fun j => if 128 ≤ j + k then bitW (x - y) j else 0) wr) (fun _ i _ => (intOf i + 1).toNat)
  case atStart => exact ⟨0, by omega, by simp, by rw [carry_0]; rfl, hL.congr (fun j hj => by rw [if_neg (by omega)])⟩
  case round =>
    obtain ⟨k, hk, rfl, rfl, hL⟩ := hrel
    by_cases hlt : k < 128
    · have hi : (k : Int) ≤ 127 := by omega
      obtain ⟨e1, e2⟩ := add_digit (x - y) y k hlt
      rw [BitVec.sub_add_cancel] at e1
      have d0 := hL.ra.cell (127 - k) (by omega)
      have d1 := hL.rb.cell (127 - k) (by omega)
      have d2 := hL.ro.cell (127 - k) (by omega)
      have f2 := hL.ro.free (127 - k)
      have b0 := bitW_01 x (127 - k)
      have b1 := bitW_01 y (127 - k)
      have bd := bitW_01 (x - y) (127 - k)
      obtain ⟨d, hd⟩ : ∃ d : Int, bitW (x - y) (127 - k) = d := ⟨_, rfl⟩
      rw [hd] at e1 e2 bd
      obtain ⟨dd0, dd1⟩ := bd
      have cl := carry_le (x - y).toNat y.toNat k
      obtain ⟨p, hp⟩ : ∃ p : Int, bitW x (127 - k) = p := ⟨_, rfl⟩
      obtain ⟨q, hq⟩ : ∃ q : Int, bitW y (127 - k) = q := ⟨_, rfl⟩
      obtain ⟨c, hc⟩ : ∃ c : Int, (carry (x - y).toNat y.toNat k : Int) = c := ⟨_, rfl⟩
      rw [hp] at d0 b0 e1
      rw [hq] at d1 b1 e1 e2
      rw [hc] at e1 e2 ⊢
      have c0 : 0 ≤ c := by omega
      have c1 : c ≤ 1 := by omega
      obtain ⟨p0, p1⟩ := b0
      obtain ⟨q0, q1⟩ := b1
      have E1 : Hid (bitW (x - y) (127 - k) = (2 + p - q - c) % 2) := by show _ = _; rw [hd]; omega
      have E2 : Hid ((carry (x - y).toNat y.toNat (k + 1) : Int) = 1 - (2 + p - q - c) / 2) := by show _ = _; rw [e2]; omega
      have s1 : Hid (IntKind.u8.wrap (2 + p) = 2 + p) := by show _ = _; rw [IntKind.wrap_u8]; omega
      have s2 : Hid (IntKind.u8.wrap (2 + p - q) = 2 + p - q) := by show _ = _; rw [IntKind.wrap_u8]; omega
      have s3 : Hid (IntKind.u8.wrap (2 + p - q - c) = 2 + p - q - c) := by show _ = _; rw [IntKind.wrap_u8]; omega
      clear e1 e2 hp hq hc cl hd
      go_wp2
      have s1' := s1.out
      have s2' := s2.out
      have s3' := s3.out
      go_region
      clear s1' s2' s3'
      go_wp2
      go_roundw
      case rel =>
        refine ⟨k + 1, by omega, ?_, by rw [E2.out], ?_⟩
        · rw [show (127 : Int) - (k : Int) - 1 = 127 - ((k + 1 : Nat) : Int) by omega]
        · refine (hL.put (k := 127 - k) (by omega) (fun j hj => ?_)).drew
          by_cases e : j = 127 - k
          · subst e
            rw [if_pos (by omega), if_pos rfl, E1.out]
          · rw [if_neg e]
            by_cases e3 : 128 ≤ j + k
            · rw [if_pos e3, if_pos (by omega)]
            · rw [if_neg e3, if_neg (by omega)]
      case measure => simp [intOf]; omega
    · obtain rfl : k = 128 := by omega
      have hv : ∀ j, j < 128 → 0 ≤ (if 128 ≤ j + 128 then bitW (x - y) j else 0) ∧ (if 128 ≤ j + 128 then bitW (x - y) j else 0) ≤ 1 := by
        intro j _; rw [if_pos (by omega)]; exact bitW_01 _ _
      have hw : IsW rh rl (BitVec.ofNat 128 (numB (fun j => if 128 ≤ j + 128 then bitW (x - y) j else 0) 128)) := by
        rw [word_of_bits (x - y) (fun j hj => by rw [if_pos (by omega)])]; exact hr
      have r0 := hL.r0
      have r1 := hL.r1
      have s0 := hL.s0
      have s1 := hL.s1
      go_wp2_with (go_at_call 49; ((with_reducible refine (word_c _ 128 128 _ _ hL.lt (by decide) hL.ro hv hw).mono ?_); rintro e w9 ⟨rfl, g9⟩; replace r0 := gkeep g9 r0; replace r1 := gkeep g9 r1; replace s0 := gfree g9 s0; replace s1 := gfree g9 s1))
      simp [bodyPost, results, Try.results29, go_sem, r0, r1]
      exact ((hL.grown.trans3 g9).setCell hL.hR _).setCell hL.hR _

end Go.Proofs.Ytjhfkmjaobleiaa
