/- The law WordNames: the examples; words at both ends; shifts and widths at theirs. A closed statement: no condition. -/
import Derived.Test.YtmlmamhcglpfeaaFrame
import Derived.Test.YtmlmamhcglpfeaaBits
import Derived.Test.YtmlmamhcglpfeaaTexts
import Derived.Lib.Hide
import Derived.Deep.DeepCutAuto
import Derived.WalkLawsBesides
import Derived.WalkSpells
namespace Go.Proofs.Ytmlmamhcglpfeaa
set_option linter.unusedVariables false
open Go.ChangeShapes Go.WideShapes Go.ChangeAt Go.RowKit Go.Joins
open Go.ChangeMaps (open_string shut_string)

theorem ghid {V W w : World} (h : Hid (Grown V W)) (g : Grown W w) : Hid (Grown V w) := h.out.trans3 g
theorem halloc {V W : World} (h : Hid (Grown V W)) (c : Array Value) (t : TypeId) : Hid (Grown V (W.alloc (.cells c t))) := h.out.alloc c t
theorem text_r (x : BitVec 128) {ah al : Int} {s : ByteArray} (hx : IsW ah al x) (hs : textW x = s) (w : World) :
    Calls Try.prog 24 #[.agg #[.int .u64 ah, .int .u64 al]] w fun e w' => e = .returned (.string s) ∧ Grown w w' := by
  rw [← hs]; exact text_c x hx w
theorem compare_r (x y : BitVec 128) {ah al bh bl r : Int} (hx : IsW ah al x) (hy : IsW bh bl y) (hr : cmpW x y = r) (w : World) :
    Calls Try.prog 25 #[.agg #[.int .u64 ah, .int .u64 al], .agg #[.int .u64 bh, .int .u64 bl]] w fun e w' => e = .returned (.int .i64 r) ∧ Grown w w' := by
  rw [← hr]; exact compare_c x y hx hy w
theorem szOf {V w : World} (_ : Hid (Grown V w)) : ∃ b : Nat, w.heap.size = b := ⟨_, rfl⟩
/-- The numbers of a slice, one by one, each with what it is. -/
def Lst (P : Int → Prop) (N : Nat) (w : World) (B : Nat) : Prop := ∀ j, j < N → ∃ n : Int, P n ∧ w.cell? ⟨B, j, none⟩ = some (.int .i64 n)
theorem lkeep {P : Int → Prop} {N : Nat} {W w : World} {B : Nat} (g : Grown W w) (h : Hid (Lst P N W B)) : Hid (Lst P N w B) := fun j hj => by
  obtain ⟨n, p, c⟩ := h.out j hj
  exact ⟨n, p, gkeep g c⟩
theorem keepA {V W w : World} {a0 a1 a2 a3 : Addr} {v0 v1 v2 v3 : Value} (g : Grown W w) (h : W.cell? a0 = some v0 ∧ W.cell? a1 = some v1 ∧ W.cell? a2 = some v2 ∧ W.cell? a3 = some v3 ∧ Hid (Grown V W)) :
    w.cell? a0 = some v0 ∧ w.cell? a1 = some v1 ∧ w.cell? a2 = some v2 ∧ w.cell? a3 = some v3 ∧ Hid (Grown V w) := ⟨gkeep g h.1, gkeep g h.2.1, gkeep g h.2.2.1, gkeep g h.2.2.2.1, h.2.2.2.2.out.trans3 g⟩
theorem keepC {V W w : World} {a0 a1 a2 a3 a4 a5 a6 a7 : Addr} {v0 v1 v2 v3 v4 v5 v6 v7 : Value} (g : Grown W w) (h : W.cell? a0 = some v0 ∧ W.cell? a1 = some v1 ∧ W.cell? a2 = some v2 ∧ W.cell? a3 = some v3 ∧ W.cell? a4 = some v4 ∧ W.cell? a5 = some v5 ∧ W.cell? a6 = some v6 ∧ W.cell? a7 = some v7 ∧ Hid (Grown V W)) :
    w.cell? a0 = some v0 ∧ w.cell? a1 = some v1 ∧ w.cell? a2 = some v2 ∧ w.cell? a3 = some v3 ∧ w.cell? a4 = some v4 ∧ w.cell? a5 = some v5 ∧ w.cell? a6 = some v6 ∧ w.cell? a7 = some v7 ∧ Hid (Grown V w) := ⟨gkeep g h.1, gkeep g h.2.1, gkeep g h.2.2.1, gkeep g h.2.2.2.1, gkeep g h.2.2.2.2.1, gkeep g h.2.2.2.2.2.1, gkeep g h.2.2.2.2.2.2.1, gkeep g h.2.2.2.2.2.2.2.1, h.2.2.2.2.2.2.2.2.out.trans3 g⟩
theorem keepB {P : Int → Prop} {N B : Nat} {V W w : World} {a0 a1 a2 a3 : Addr} {v0 v1 v2 v3 : Value} (g : Grown W w) (h : W.cell? a0 = some v0 ∧ W.cell? a1 = some v1 ∧ W.cell? a2 = some v2 ∧ W.cell? a3 = some v3 ∧ Hid (Lst P N W B) ∧ Hid (Grown V W)) :
    w.cell? a0 = some v0 ∧ w.cell? a1 = some v1 ∧ w.cell? a2 = some v2 ∧ w.cell? a3 = some v3 ∧ Hid (Lst P N w B) ∧ Hid (Grown V w) := ⟨gkeep g h.1, gkeep g h.2.1, gkeep g h.2.2.1, gkeep g h.2.2.2.1, lkeep g h.2.2.2.2.1, h.2.2.2.2.2.out.trans3 g⟩

theorem w_0 : IsW 0 0 (0#128) := ⟨by decide, by decide⟩
theorem w_1 : IsW 0 1 (1#128) := ⟨by decide, by decide⟩
theorem w_all : IsW 18446744073709551615 18446744073709551615 (340282366920938463463374607431768211455#128) := ⟨by decide, by decide⟩
theorem w_top : IsW 9223372036854775808 0 (170141183460469231731687303715884105728#128) := ⟨by decide, by decide⟩
theorem w_5 : IsW 0 5 (5#128) := ⟨by decide, by decide⟩
theorem w_258 : IsW 0 258 (258#128) := ⟨by decide, by decide⟩
theorem w_64 : IsW 1 0 (18446744073709551616#128) := ⟨by decide, by decide⟩
theorem r_not : IsW 18446744073709551615 18446744073709551615 (~~~ (0#128)) := ⟨by decide, by decide⟩
theorem r_127 : IsW 9223372036854775808 0 ((1#128) <<< (127 : Int).toNat) := ⟨by decide, by decide⟩
theorem r_add1 : IsW 0 0 ((340282366920938463463374607431768211455#128) + (1#128)) := ⟨by decide, by decide⟩
theorem r_add2 : IsW 0 0 ((170141183460469231731687303715884105728#128) + (170141183460469231731687303715884105728#128)) := ⟨by decide, by decide⟩
theorem r_sub : IsW 9223372036854775807 18446744073709551615 ((170141183460469231731687303715884105728#128) - (1#128)) := ⟨by decide, by decide⟩
theorem r_m127 : IsW 9223372036854775807 18446744073709551615 (mask (127 : Int).toNat) := ⟨by decide, by decide⟩
theorem s_all : (sizeW (340282366920938463463374607431768211455#128) : Int) = 128 := by decide
theorem s_1 : (sizeW (1#128) : Int) = 1 := by decide
theorem s_64 : (sizeW (18446744073709551616#128) : Int) = 65 := by decide
theorem all_is : 340282366920938463463374607431768211455#128 = BitVec.allOnes 128 := by decide
theorem mask_0 : mask 0 = 0#128 := by decide
theorem f_left (n : Int) (h : 128 ≤ n) : IsW 0 0 ((340282366920938463463374607431768211455#128) <<< n.toNat) := by rw [BitVec.shiftLeft_eq_zero (by omega)]; exact w_0
theorem f_right (n : Int) (h : 128 ≤ n) : IsW 0 0 ((340282366920938463463374607431768211455#128) >>> n.toNat) := by rw [BitVec.ushiftRight_eq_zero (by omega)]; exact w_0
theorem f_mask (n : Int) (h : 128 ≤ n) : IsW 18446744073709551615 18446744073709551615 (mask n.toNat) := by rw [mask_all _ (by omega), ← all_is]; exact w_all
theorem f_cut (n : Int) (h : 128 ≤ n) : IsW 18446744073709551615 18446744073709551615 ((340282366920938463463374607431768211455#128) &&& mask n.toNat) := by rw [cut_full _ _ (by omega)]; exact w_all
theorem n_left (n : Int) (h : n ≤ 0) : IsW 18446744073709551615 18446744073709551615 ((340282366920938463463374607431768211455#128) <<< n.toNat) := by rw [show n.toNat = 0 by omega, BitVec.shiftLeft_zero]; exact w_all
theorem n_right (n : Int) (h : n ≤ 0) : IsW 18446744073709551615 18446744073709551615 ((340282366920938463463374607431768211455#128) >>> n.toNat) := by rw [show n.toNat = 0 by omega, BitVec.ushiftRight_zero]; exact w_all
theorem n_mask (n : Int) (h : n ≤ 0) : IsW 0 0 (mask n.toNat) := by rw [show n.toNat = 0 by omega, mask_0]; exact w_0
theorem n_cut (n : Int) (h : n ≤ 0) : IsW 0 0 ((340282366920938463463374607431768211455#128) &&& mask n.toNat) := by rw [show n.toNat = 0 by omega, mask_0, BitVec.and_zero]; exact w_0
set_option maxRecDepth 100000 in
theorem o_all : ∀ N : Fin 128, sizeW (mask N.val) = N.val ∧ (340282366920938463463374607431768211455#128) >>> (128 - N.val) = mask N.val ∧ ((170141183460469231731687303715884105728#128) >>> N.val) <<< N.val = 170141183460469231731687303715884105728#128 ∧ mask N.val + 1#128 = (1#128) <<< N.val := by decide +kernel
theorem o_size (n : Int) (h : 1 ≤ n) (h2 : n ≤ 127) : (sizeW (mask n.toNat) : Int) = n := by
  have e := (o_all ⟨n.toNat, by omega⟩).1
  dsimp only at e; rw [e]; omega
theorem o_right {p q : Int} (n : Int) (h : 1 ≤ n) (h2 : n ≤ 127) (hm : IsW p q (mask n.toNat)) : IsW p q ((340282366920938463463374607431768211455#128) >>> (128 - n).toNat) := by
  have e := (o_all ⟨n.toNat, by omega⟩).2.1
  dsimp only at e; rw [show (128 - n).toNat = 128 - n.toNat by omega, e]; exact hm
theorem o_top (n : Int) (h : 1 ≤ n) (h2 : n ≤ 127) : IsW 9223372036854775808 0 (((170141183460469231731687303715884105728#128) >>> n.toNat) <<< n.toNat) := by
  have e := (o_all ⟨n.toNat, by omega⟩).2.2.1
  dsimp only at e; rw [e]; exact w_top
theorem o_one {p q : Int} (n : Int) (h : 1 ≤ n) (h2 : n ≤ 127) (hm : IsW p q (mask n.toNat + 1#128)) : IsW p q ((1#128) <<< n.toNat) := by
  have e := (o_all ⟨n.toNat, by omega⟩).2.2.2
  dsimp only at e; rw [← e]; exact hm
theorem e_of : IsW 0 0 (wordOf (⟨#[]⟩ : ByteArray).data.toList) := ⟨by decide, by decide⟩
theorem t_258 : textW (258#128) = ⟨#[0, 0, 0, 0, 0, 0, 0, 0, 0, 0, 0, 0, 0, 0, 1, 2]⟩ := by decide +kernel
theorem c_at : cmpW (340282366920938463463374607431768211455#128) (170141183460469231731687303715884105728#128) = 1 := by decide
theorem c_ta : cmpW (170141183460469231731687303715884105728#128) (340282366920938463463374607431768211455#128) = -1 := by decide
theorem c_56 : cmpW (5#128) (18446744073709551616#128) = -1 := by decide
theorem c_aa : cmpW (340282366920938463463374607431768211455#128) (340282366920938463463374607431768211455#128) = 0 := by decide

set_option maxRecDepth 100000 in
set_option maxHeartbeats 80000000 in
theorem wordNames_walk (w : World) :
    Calls Try.prog 3 #[] w fun e w' => e = .returned (.bool true) ∧ Grown w w' := by
  obtain ⟨T0, hT0⟩ : ∃ T : ByteArray, textW (340282366920938463463374607431768211455#128) = T := ⟨_, rfl⟩
  have hT16 : T0.size = 16 := by rw [← hT0, textW_size]
  have hTs : T0.size ≤ 16 := by omega
  have hTw : IsW 18446744073709551615 18446744073709551615 (wordOf T0.data.toList) := by rw [← hT0, wordOf_text]; exact w_all
  have hTa : 16 < (T0 ++ (⟨#[97]⟩ : ByteArray)).size := by rw [ByteArray.size_append, hT16]; decide
  have hTm : (T0 ++ (⟨#[97]⟩ : ByteArray)).size ≤ maxLen := by rw [ByteArray.size_append, hT16]; decide
  have HT := Lib.hid hT0
  clear hT0
  go_enter Try.func3, Try.ntmps3
  go_upto_region 3 with (first
      | (go_at_call 13; ((with_reducible refine (not_c (0#128) w_0 r_not _).mono ?_); rintro e w1 ⟨rfl, g1⟩; obtain ⟨k0, k1, _, _⟩ := new2 w1 (.int .u64 18446744073709551615) (.int .u64 18446744073709551615) 24))
      | (go_at_call 15; ((with_reducible refine (new_c 1 _).mono ?_); rintro e w2 ⟨rfl, g2⟩; replace k0 := gkeep g2 k0; replace k1 := gkeep g2 k1))
      | (go_at_call 14; ((with_reducible refine (left_c (1#128) 127 (by decide) (by decide) w_1 r_127 _).mono ?_); rintro e w3 ⟨rfl, g3⟩; replace k0 := kalloc (o := .cells #[.int .u64 9223372036854775808, .int .u64 0] 24) (gkeep g3 k0); replace k1 := kalloc (o := .cells #[.int .u64 9223372036854775808, .int .u64 0] 24) (gkeep g3 k1); obtain ⟨k2, k3, _, _⟩ := new2 w3 (.int .u64 9223372036854775808) (.int .u64 0) 24)))
  have G : Hid (Grown w (w3.alloc (.cells #[.int .u64 9223372036854775808, .int .u64 0] 24))) := ((((g1.alloc _ _).trans3 g2).trans3 g3).alloc _ _)
  generalize (w3.alloc (.cells #[.int .u64 9223372036854775808, .int .u64 0] 24)) = W at *
  generalize w1.heap.size = A at *
  generalize w3.heap.size = B at *
  clear g1 g2 g3
  go_region_held3 (fun w' => w'.cell? ⟨A, 0, none⟩ = some (.int .u64 18446744073709551615) ∧ w'.cell? ⟨A, 1, none⟩ = some (.int .u64 18446744073709551615) ∧ w'.cell? ⟨B, 0, none⟩ = some (.int .u64 9223372036854775808) ∧ w'.cell? ⟨B, 1, none⟩ = some (.int .u64 0) ∧ Hid (Grown w w')) (first | assumption | exact ⟨k0, k1, k2, k3, G⟩ | exact keepA (by assumption) (by assumption))
    (first
      | (go_at_call 16; ((with_reducible refine (awake_c _).mono ?_); rintro e w' ⟨rfl, g'⟩; skip))
      | (go_at_call 15; ((with_reducible refine (new_c _ _).mono ?_); rintro e w' ⟨rfl, g'⟩; skip))
      | (go_at_call 17; ((with_reducible refine (add_c (340282366920938463463374607431768211455#128) (1#128) w_all w_1 r_add1 _).mono ?_); rintro e w' ⟨rfl, g'⟩; skip))
      | (go_at_call 17; ((with_reducible refine (add_c (170141183460469231731687303715884105728#128) (170141183460469231731687303715884105728#128) w_top w_top r_add2 _).mono ?_); rintro e w' ⟨rfl, g'⟩; skip))
      | (go_at_call 18; ((with_reducible refine (sub_c (170141183460469231731687303715884105728#128) (1#128) w_top w_1 r_sub _).mono ?_); rintro e w' ⟨rfl, g'⟩; skip))
      | (go_at_call 19; ((with_reducible refine (mask_c 127 (by decide) (by decide) r_m127 _).mono ?_); rintro e w' ⟨rfl, g'⟩; skip))
      | (go_at_call 20; ((with_reducible refine (size_r (340282366920938463463374607431768211455#128) w_all s_all _).mono ?_); rintro e w' ⟨rfl, g'⟩; skip))
      | (go_at_call 20; ((with_reducible refine (size_r (1#128) w_1 s_1 _).mono ?_); rintro e w' ⟨rfl, g'⟩; skip))
      | (go_at_call 20; ((with_reducible refine (size_r (18446744073709551616#128) w_64 s_64 _).mono ?_); rintro e w' ⟨rfl, g'⟩; skip)))
  have h := ‹_ ∧ _ ∧ _ ∧ _ ∧ Hid (Grown w w')›
  clear k0 k1 k2 k3 G
  obtain ⟨k0, k1, k2, k3, G⟩ := h
  obtain ⟨O, eO⟩ := szOf G
  go_wp2_with fail
  try simp only [eO]
  go_loopw [62] (fun i wr => ∃ k : Nat, k ≤ 7 ∧ i = .int .i64 k ∧ wr.cell? ⟨A, 0, none⟩ = some (.int .u64 18446744073709551615) ∧ wr.cell? ⟨A, 1, none⟩ = some (.int .u64 18446744073709551615) ∧ wr.cell? ⟨B, 0, none⟩ = some (.int .u64 9223372036854775808) ∧ wr.cell? ⟨B, 1, none⟩ = some (.int .u64 0) ∧ Hid (Lst (fun n => 128 ≤ n ∧ n ≤ 9223372036854775807) 7 wr O) ∧ Hid (Grown w wr)) (fun i _ => 7 - (intOf i).toNat)
  case atStart =>
    refine ⟨0, by omega, rfl, kalloc k0, kalloc k1, kalloc k2, kalloc k3, ?_, halloc G _ _⟩
    subst eO
    intro j hj
    have hj' : j = 0 ∨ j = 1 ∨ j = 2 ∨ j = 3 ∨ j = 4 ∨ j = 5 ∨ j = 6 := by omega
    rcases hj' with rfl | rfl | rfl | rfl | rfl | rfl | rfl
    · exact ⟨128, by decide, by simp [go_sem]⟩
    · exact ⟨129, by decide, by simp [go_sem]⟩
    · exact ⟨191, by decide, by simp [go_sem]⟩
    · exact ⟨192, by decide, by simp [go_sem]⟩
    · exact ⟨2147483648, by decide, by simp [go_sem]⟩
    · exact ⟨1099511627776, by decide, by simp [go_sem]⟩
    · exact ⟨9223372036854775807, by decide, by simp [go_sem]⟩
  case round =>
    obtain ⟨k, hk, rfl, k0, k1, k2, k3, hL, G⟩ := hrel
    by_cases hlt : k < 7
    · as_aux_lemma =>
      obtain ⟨n, ⟨hn, hnn⟩, hc⟩ := hL.out k hlt
      have hlt' : (k : Int) < 7 := by omega
      have n0 : -9223372036854775808 ≤ n := by omega
      have n1 : n ≤ 9223372036854775807 := by omega
      have m0 : -9223372036854775808 ≤ -n := by omega
      have m1 : -n ≤ 9223372036854775807 := by omega
      have hm : -n ≤ 0 := by omega
      have hw : IntKind.i64.wrap (-n) = -n := IntWalk.i64_in _ (by omega)
      go_wp2_with fail
      go_region_held3 (fun w' => w'.cell? ⟨A, 0, none⟩ = some (.int .u64 18446744073709551615) ∧ w'.cell? ⟨A, 1, none⟩ = some (.int .u64 18446744073709551615) ∧ w'.cell? ⟨B, 0, none⟩ = some (.int .u64 9223372036854775808) ∧ w'.cell? ⟨B, 1, none⟩ = some (.int .u64 0) ∧ Hid (Lst (fun n => 128 ≤ n ∧ n ≤ 9223372036854775807) 7 w' O) ∧ Hid (Grown w w')) (first | assumption | exact ⟨k0, k1, k2, k3, hL, G⟩ | exact keepB (by assumption) (by assumption))
        (first
          | (go_at_call 14; ((with_reducible refine (left_c (340282366920938463463374607431768211455#128) n n0 n1 w_all (f_left n hn) _).mono ?_); rintro e w' ⟨rfl, g'⟩; skip))
          | (go_at_call 21; ((with_reducible refine (right_c (340282366920938463463374607431768211455#128) n n0 n1 w_all (f_right n hn) _).mono ?_); rintro e w' ⟨rfl, g'⟩; skip))
          | (go_at_call 19; ((with_reducible refine (mask_c n n0 n1 (f_mask n hn) _).mono ?_); rintro e w' ⟨rfl, g'⟩; skip))
          | (go_at_call 22; ((with_reducible refine (cut_c (340282366920938463463374607431768211455#128) n n0 n1 w_all (f_cut n hn) _).mono ?_); rintro e w' ⟨rfl, g'⟩; skip))
          | (go_at_call 14; ((with_reducible refine (left_c (340282366920938463463374607431768211455#128) (-n) m0 m1 w_all (n_left (-n) hm) _).mono ?_); rintro e w' ⟨rfl, g'⟩; skip))
          | (go_at_call 21; ((with_reducible refine (right_c (340282366920938463463374607431768211455#128) (-n) m0 m1 w_all (n_right (-n) hm) _).mono ?_); rintro e w' ⟨rfl, g'⟩; skip))
          | (go_at_call 19; ((with_reducible refine (mask_c (-n) m0 m1 (n_mask (-n) hm) _).mono ?_); rintro e w' ⟨rfl, g'⟩; skip))
          | (go_at_call 22; ((with_reducible refine (cut_c (340282366920938463463374607431768211455#128) (-n) m0 m1 w_all (n_cut (-n) hm) _).mono ?_); rintro e w' ⟨rfl, g'⟩; skip)))
      have h := ‹_ ∧ _ ∧ _ ∧ _ ∧ Hid (Lst _ _ w' O) ∧ Hid (Grown w w')›
      go_wp2
      go_round
      case rel => exact ⟨k + 1, by omega, by go_num, h⟩
      case measure => simp [intOf]; omega
    · have hge : (7 : Int) ≤ (k : Int) := by omega
      clear hL hlt hk
      obtain ⟨O2, eO2⟩ := szOf G
      go_wp2_with fail
      try simp only [eO2]
      go_loopw [125] (fun i wr => ∃ k : Nat, k ≤ 5 ∧ i = .int .i64 k ∧ wr.cell? ⟨A, 0, none⟩ = some (.int .u64 18446744073709551615) ∧ wr.cell? ⟨A, 1, none⟩ = some (.int .u64 18446744073709551615) ∧ wr.cell? ⟨B, 0, none⟩ = some (.int .u64 9223372036854775808) ∧ wr.cell? ⟨B, 1, none⟩ = some (.int .u64 0) ∧ Hid (Lst (fun n => 1 ≤ n ∧ n ≤ 127) 5 wr O2) ∧ Hid (Grown w wr)) (fun i _ => 5 - (intOf i).toNat)
      case atStart =>
        refine ⟨0, by omega, rfl, kalloc k0, kalloc k1, kalloc k2, kalloc k3, ?_, halloc G _ _⟩
        subst eO2
        intro j hj
        have hj' : j = 0 ∨ j = 1 ∨ j = 2 ∨ j = 3 ∨ j = 4 := by omega
        rcases hj' with rfl | rfl | rfl | rfl | rfl
        · exact ⟨1, by decide, by simp [go_sem]⟩
        · exact ⟨63, by decide, by simp [go_sem]⟩
        · exact ⟨64, by decide, by simp [go_sem]⟩
        · exact ⟨65, by decide, by simp [go_sem]⟩
        · exact ⟨127, by decide, by simp [go_sem]⟩
      case round =>
        obtain ⟨k, hk, rfl, k0, k1, k2, k3, hL, G⟩ := hrel
        by_cases hlt : k < 5
        · obtain ⟨n, ⟨hn, hnn⟩, hc⟩ := hL.out k hlt
          have hlt' : (k : Int) < 5 := by omega
          have n0 : -9223372036854775808 ≤ n := by omega
          have n1 : n ≤ 9223372036854775807 := by omega
          have m0 : -9223372036854775808 ≤ 128 - n := by omega
          have m1 : 128 - n ≤ 9223372036854775807 := by omega
          have hw : IntKind.i64.wrap (128 - n) = 128 - n := IntWalk.i64_in _ (by omega)
          obtain ⟨mh, ml, hm⟩ := isW_ex (mask n.toNat)
          obtain ⟨ph, pl, hp⟩ := isW_ex ((170141183460469231731687303715884105728#128) >>> n.toNat)
          obtain ⟨qh, ql, hq⟩ := isW_ex (mask n.toNat + 1#128)
          have hs := Lib.hid (o_size n hn hnn)
          have hr := o_right n hn hnn hm
          have ht := o_top n hn hnn
          have ho := o_one n hn hnn hq
          go_wp2_with fail
          go_region_held3 (fun w' => w'.cell? ⟨A, 0, none⟩ = some (.int .u64 18446744073709551615) ∧ w'.cell? ⟨A, 1, none⟩ = some (.int .u64 18446744073709551615) ∧ w'.cell? ⟨B, 0, none⟩ = some (.int .u64 9223372036854775808) ∧ w'.cell? ⟨B, 1, none⟩ = some (.int .u64 0) ∧ Hid (Lst (fun n => 1 ≤ n ∧ n ≤ 127) 5 w' O2) ∧ Hid (Grown w w')) (first | assumption | exact ⟨k0, k1, k2, k3, hL, G⟩ | exact keepB (by assumption) (by assumption))
            (first
              | (go_at_call 19; ((with_reducible refine (mask_c n n0 n1 hm _).mono ?_); rintro e w' ⟨rfl, g'⟩; skip))
              | (go_at_call 20; ((with_reducible refine (size_r (mask n.toNat) hm hs.out _).mono ?_); rintro e w' ⟨rfl, g'⟩; skip))
              | (go_at_call 21; ((with_reducible refine (right_c (340282366920938463463374607431768211455#128) (128 - n) m0 m1 w_all hr _).mono ?_); rintro e w' ⟨rfl, g'⟩; skip))
              | (go_at_call 21; ((with_reducible refine (right_c (170141183460469231731687303715884105728#128) n n0 n1 w_top hp _).mono ?_); rintro e w' ⟨rfl, g'⟩; skip))
              | (go_at_call 14; ((with_reducible refine (left_c ((170141183460469231731687303715884105728#128) >>> n.toNat) n n0 n1 hp ht _).mono ?_); rintro e w' ⟨rfl, g'⟩; skip))
              | (go_at_call 15; ((with_reducible refine (new_c 1 _).mono ?_); rintro e w' ⟨rfl, g'⟩; skip))
              | (go_at_call 17; ((with_reducible refine (add_c (mask n.toNat) (1#128) hm w_1 hq _).mono ?_); rintro e w' ⟨rfl, g'⟩; skip))
              | (go_at_call 14; ((with_reducible refine (left_c (1#128) n n0 n1 w_1 ho _).mono ?_); rintro e w' ⟨rfl, g'⟩; skip)))
          have h := ‹_ ∧ _ ∧ _ ∧ _ ∧ Hid (Lst _ _ w' O2) ∧ Hid (Grown w w')›
          go_wp2
          go_round
          case rel => exact ⟨k + 1, by omega, by go_num, h⟩
          case measure => simp [intOf]; omega
        · as_aux_lemma =>
          obtain rfl : k = 5 := by omega
          clear hL hlt hk
          go_wp2_with (first
                | (go_at_call 23; ((with_reducible refine (of_c ⟨#[]⟩ (by decide) e_of _).mono ?_); rintro e w4 ⟨rfl, g'⟩; replace k0 := gkeep g' k0; replace k1 := gkeep g' k1; replace k2 := gkeep g' k2; replace k3 := gkeep g' k3; replace k0 := kalloc (o := .cells #[.int .u64 0, .int .u64 0] 24) k0; replace k1 := kalloc (o := .cells #[.int .u64 0, .int .u64 0] 24) k1; replace k2 := kalloc (o := .cells #[.int .u64 0, .int .u64 0] 24) k2; replace k3 := kalloc (o := .cells #[.int .u64 0, .int .u64 0] 24) k3; obtain ⟨m0, m1, _, _⟩ := new2 w4 (.int .u64 0) (.int .u64 0) 24; replace G := halloc (ghid G g') #[.int .u64 0, .int .u64 0] 24; clear g'))
                | (go_at_call 24; ((with_reducible refine (text_r (340282366920938463463374607431768211455#128) w_all HT.out _).mono ?_); rintro e w5 ⟨rfl, g'⟩; replace k0 := gkeep g' k0; replace k1 := gkeep g' k1; replace k2 := gkeep g' k2; replace k3 := gkeep g' k3; (try replace m0 := gkeep g' m0); (try replace m1 := gkeep g' m1); (try replace p0 := gkeep g' p0); (try replace p1 := gkeep g' p1); replace G := ghid G g'; clear g'))
                | (go_at_call 23; ((with_reducible refine (of_c T0 hTs hTw _).mono ?_); rintro e w6 ⟨rfl, g'⟩; replace k0 := gkeep g' k0; replace k1 := gkeep g' k1; replace k2 := gkeep g' k2; replace k3 := gkeep g' k3; replace k0 := kalloc (o := .cells #[.int .u64 18446744073709551615, .int .u64 18446744073709551615] 24) k0; replace k1 := kalloc (o := .cells #[.int .u64 18446744073709551615, .int .u64 18446744073709551615] 24) k1; replace k2 := kalloc (o := .cells #[.int .u64 18446744073709551615, .int .u64 18446744073709551615] 24) k2; replace k3 := kalloc (o := .cells #[.int .u64 18446744073709551615, .int .u64 18446744073709551615] 24) k3; replace m0 := kalloc (o := .cells #[.int .u64 18446744073709551615, .int .u64 18446744073709551615] 24) (gkeep g' m0); replace m1 := kalloc (o := .cells #[.int .u64 18446744073709551615, .int .u64 18446744073709551615] 24) (gkeep g' m1); obtain ⟨p0, p1, _, _⟩ := new2 w6 (.int .u64 18446744073709551615) (.int .u64 18446744073709551615) 24; replace G := halloc (ghid G g') #[.int .u64 18446744073709551615, .int .u64 18446744073709551615] 24; clear g'))
                | (go_at_call 23; ((with_reducible refine (of_long (T0 ++ ⟨#[97]⟩) hTa hTm _).mono ?_); rintro e w7 ⟨rfl, g'⟩; replace k0 := gkeep g' k0; replace k1 := gkeep g' k1; replace k2 := gkeep g' k2; replace k3 := gkeep g' k3; replace k0 := kalloc (o := .cells #[.int .u64 0, .int .u64 0] 24) k0; replace k1 := kalloc (o := .cells #[.int .u64 0, .int .u64 0] 24) k1; replace k2 := kalloc (o := .cells #[.int .u64 0, .int .u64 0] 24) k2; replace k3 := kalloc (o := .cells #[.int .u64 0, .int .u64 0] 24) k3; replace m0 := kalloc (o := .cells #[.int .u64 0, .int .u64 0] 24) (gkeep g' m0); replace m1 := kalloc (o := .cells #[.int .u64 0, .int .u64 0] 24) (gkeep g' m1); replace p0 := kalloc (o := .cells #[.int .u64 0, .int .u64 0] 24) (gkeep g' p0); replace p1 := kalloc (o := .cells #[.int .u64 0, .int .u64 0] 24) (gkeep g' p1); obtain ⟨q0, q1, _, _⟩ := new2 w7 (.int .u64 0) (.int .u64 0) 24; replace G := halloc (ghid G g') #[.int .u64 0, .int .u64 0] 24; clear g')))
          clear q0 q1
          generalize (w7.alloc (.cells #[.int .u64 0, .int .u64 0] 24)) = W at *
          generalize w4.heap.size = C at *
          generalize w6.heap.size = D at *
          simp only [List.append]
          go_region_held3 (fun w' => w'.cell? ⟨A, 0, none⟩ = some (.int .u64 18446744073709551615) ∧ w'.cell? ⟨A, 1, none⟩ = some (.int .u64 18446744073709551615) ∧ w'.cell? ⟨B, 0, none⟩ = some (.int .u64 9223372036854775808) ∧ w'.cell? ⟨B, 1, none⟩ = some (.int .u64 0) ∧ w'.cell? ⟨C, 0, none⟩ = some (.int .u64 0) ∧ w'.cell? ⟨C, 1, none⟩ = some (.int .u64 0) ∧ w'.cell? ⟨D, 0, none⟩ = some (.int .u64 18446744073709551615) ∧ w'.cell? ⟨D, 1, none⟩ = some (.int .u64 18446744073709551615) ∧ Hid (Grown w w')) (first | assumption | exact ⟨k0, k1, k2, k3, m0, m1, p0, p1, G⟩ | exact keepC (by assumption) (by assumption))
            (first
              | (go_at_call 14; ((with_reducible refine (left_c (340282366920938463463374607431768211455#128) 0 (by decide) (by decide) w_all (n_left 0 (by decide)) _).mono ?_); rintro e w' ⟨rfl, g'⟩; skip))
              | (go_at_call 21; ((with_reducible refine (right_c (340282366920938463463374607431768211455#128) 0 (by decide) (by decide) w_all (n_right 0 (by decide)) _).mono ?_); rintro e w' ⟨rfl, g'⟩; skip))
              | (go_at_call 19; ((with_reducible refine (mask_c 0 (by decide) (by decide) (n_mask 0 (by decide)) _).mono ?_); rintro e w' ⟨rfl, g'⟩; skip))
              | (go_at_call 14; ((with_reducible refine (left_c (340282366920938463463374607431768211455#128) (-9223372036854775808) (by decide) (by decide) w_all (n_left (-9223372036854775808) (by decide)) _).mono ?_); rintro e w' ⟨rfl, g'⟩; skip))
              | (go_at_call 19; ((with_reducible refine (mask_c (-9223372036854775808) (by decide) (by decide) (n_mask (-9223372036854775808) (by decide)) _).mono ?_); rintro e w' ⟨rfl, g'⟩; skip))
              | (go_at_call 25; ((with_reducible refine (compare_r (340282366920938463463374607431768211455#128) (170141183460469231731687303715884105728#128) w_all w_top c_at _).mono ?_); rintro e w' ⟨rfl, g'⟩; skip))
              | (go_at_call 25; ((with_reducible refine (compare_r (170141183460469231731687303715884105728#128) (340282366920938463463374607431768211455#128) w_top w_all c_ta _).mono ?_); rintro e w' ⟨rfl, g'⟩; skip))
              | (go_at_call 15; ((with_reducible refine (new_c _ _).mono ?_); rintro e w' ⟨rfl, g'⟩; skip))
              | (go_at_call 25; ((with_reducible refine (compare_r (5#128) (18446744073709551616#128) w_5 w_64 c_56 _).mono ?_); rintro e w' ⟨rfl, g'⟩; skip))
              | (go_at_call 25; ((with_reducible refine (compare_r (340282366920938463463374607431768211455#128) (340282366920938463463374607431768211455#128) w_all w_all c_aa _).mono ?_); rintro e w' ⟨rfl, g'⟩; skip))
              | (go_at_call 24; ((with_reducible refine (text_r (258#128) w_258 t_258 _).mono ?_); rintro e w' ⟨rfl, g'⟩; skip)))
          have HG : Hid (Grown w w') := by
            have h := ‹_ ∧ _ ∧ _ ∧ _ ∧ _ ∧ _ ∧ _ ∧ _ ∧ Hid (Grown w w')›
            exact h.2.2.2.2.2.2.2.2
          go_wp2
          go_ret
          exact ⟨rfl, HG.out⟩
set_option maxRecDepth 100000 in
theorem wordNames_lifted (os : Os) (started : os.Started) (H : Type) (enc : TypeId × Value → H) :
    ReturnsInHanded {} Try.checked os 3 .any (Rows.wordNamesSpec.pre6 enc Try.prog Try.f3 Rows.wordNamesRow.domain false) (Rows.wordNamesSpec.post enc Try.prog Try.f3 false true false false) := by
  refine returnsInHanded_of_change (C := Try.checked) own started (by kernel_rfl) Try.func3
    (ChangeSpec.witness6 (enc := enc) (C := Try.checked) false ⟨#[], #[], []⟩ 8 (by kernel_rfl) (by kernel_rfl) (by kernel_rfl) (by kernel_rfl)) ?_
  intro W base args ds gs before hval0 hW hcnd _
  have hval : ∀ (j : Nat) t v, Try.f3.params[j]? = some t → args[j]? = some v → Value.okWide Try.prog W .any base t v := hval0
  have hW' := hW
  obtain ⟨p, q, hA0, hV, rfl, hfz, hnd⟩ := hW
  have hA : DataW.TrodAll enc Try.prog W 0 (fun _ => true) true Try.f3.params.toList args.toList ds p := hA0
  rw [Try.params3] at hA hval
  obtain ⟨hargs, rfl, rfl⟩ := trodAll_nil hA
  obtain rfl : args = #[] := by cases args; simp_all
  obtain ⟨rfl, rfl⟩ := trodVars_none hV
  clear hA0 hval0
  simp only [List.append_nil] at hW'
  refine (wordNames_walk  W).mono fun e W' ⟨he, hg⟩ => ?_
  subst he
  exact ⟨_, rfl, post_of_same (pa := []) (pv := []) hW' (fun _ _ _ => (trodAll_cons_mk (shut_bool Try.underlying4 _) trodAll_mk0)) (fun sp _ => trodAll_mk0) (fun _ _ => rfl) rfl
    (hg.frame _) hg.2.1 (ok_one (by kernel_rfl) rfl (okWide_bool_mk Try.underlying4 _))⟩

theorem wordNames_holds : Rows.WordNamesSaid :=
  OpenClaim.holds_of_wide 3 Try.f3 rfl rfl rfl rfl rfl rfl rfl ⟨rfl, rfl, rfl, rfl, rfl⟩ rfl rfl rfl rfl rfl (by kernel_rfl) Try.func3 (by kernel_rfl)
    (of_decide_eq_true (by kernel_rfl)) (by unfold Func.isWrapper; first | (rw [if_pos (by decide +kernel)]; kernel_rfl) | (rw [if_neg (by decide +kernel)]; exact ⟨rfl, rfl⟩))
    (fun os started H enc _ => wordNames_lifted os started H enc)

#print axioms wordNames_holds
end Go.Proofs.Ytmlmamhcglpfeaa
