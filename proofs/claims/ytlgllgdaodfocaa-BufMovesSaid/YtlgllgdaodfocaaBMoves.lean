/- The law BufMoves: behind an Insert, a Delete, what stood ahead of the place stands where it stood, and what stood behind it by so many bytes farther, or nearer. No condition. -/
import Derived.Test.YtlgllgdaodfocaaBAwake
import Derived.Test.YtlgllgdaodfocaaFrame
import Derived.Lib.Hide
import Derived.Deep.DeepCutAuto
import Derived.WalkLawsBesides
import Derived.WalkSpells
import Derived.BigQuiet
import Derived.BigRegion
import Derived.Deep.RegionHeld3
namespace Go.Proofs.Ytlgllgdaodfocaa
set_option linter.unusedVariables false
open Go.ChangeShapes Go.WideShapes Go.ChangeAt Go.RowKit Go.Joins
open Go.ChangeMaps (open_string shut_string)

theorem ins_del_all (s : ByteArray) (k m : Nat) (hk : k ≤ s.size) : delT (insT s k m) k (m + s.size - k) = s.extract 0 k := by
  have e1 := insT_size s k m hk
  refine text_ext ?_ fun j hj => ?_
  · rw [delT_size _ _ _ (by omega), e1, ext_size _ _ _ hk]; omega
  · rw [delT_size _ _ _ (by omega), e1] at hj
    rw [byteS_del _ _ _ _ (by omega), byteS_ins s k m _ hk, if_pos (by omega), if_pos (by omega), byteS_ext _ _ _ _ hk, if_pos (by omega), Nat.zero_add]
theorem ins_del_front (s : ByteArray) (k m : Nat) (hk : k ≤ s.size) : delT (insT s k m) 0 (k + m) = s.extract k s.size := by
  have e1 := insT_size s k m hk
  refine text_ext ?_ fun j hj => ?_
  · rw [delT_size _ _ _ (by omega), e1, ext_size _ _ _ (Nat.le_refl _)]; omega
  · rw [delT_size _ _ _ (by omega), e1] at hj
    rw [byteS_del _ _ _ _ (by omega), if_neg (by omega), byteS_ins s k m _ hk, if_neg (by omega), if_neg (by omega), byteS_ext _ _ _ _ (Nat.le_refl _), if_pos (by omega)]
    congr 1; omega
theorem moves_ahead (s : ByteArray) (k m f W : Nat) (hk : k ≤ s.size) (hW : W ≤ 128) (h : f + W ≤ 8 * k) : fldW (insT s k m) f W = fldW s f W :=
  fld_move f f W hW rfl fun j hj => by rw [byteS_ins s k m _ hk, if_pos (by omega)]
theorem moves_behind (s : ByteArray) (k m f W : Nat) (hk : k ≤ s.size) (hW : W ≤ 128) (h : 8 * k ≤ f) : fldW (insT s k m) (f + 8 * m) W = fldW s f W :=
  fld_move _ f W hW (by omega) fun j hj => by
    rw [byteS_ins s k m _ hk, if_neg (by omega), if_neg (by omega)]; congr 1; omega
theorem moves_front (s : ByteArray) (k f W : Nat) (hk : k ≤ s.size) (hW : W ≤ 128) (h : 8 * k ≤ f) (hf : f + W ≤ 8 * s.size) : fldW (s.extract k s.size) (f - 8 * k) W = fldW s f W :=
  fld_move _ f W hW (by omega) fun j hj => by
    rw [byteS_ext _ _ _ _ (Nat.le_refl _), if_pos (by omega)]; congr 1; omega

set_option maxRecDepth 100000 in
set_option maxHeartbeats 16000000 in
theorem bufMoves_ok (s : ByteArray) (n1 : Int) (n1l : -9223372036854775808 ≤ n1) (n1h : n1 ≤ 9223372036854775807) (n2 : Int) (n2l : -9223372036854775808 ≤ n2) (n2h : n2 ≤ 9223372036854775807) (n3 : Int) (n3l : -9223372036854775808 ≤ n3) (n3h : n3 ≤ 9223372036854775807) (n4 : Int) (n4l : -9223372036854775808 ≤ n4) (n4h : n4 ≤ 9223372036854775807) (h0 : s.size ≤ 4000) (h1 : 1 ≤ s.size) (w : World) :
    Calls Try.prog 6 #[.string s, .int .i64 n1, .int .i64 n2, .int .i64 n3, .int .i64 n4] w fun e w' => e = .returned (.bool true) ∧ Wider w w' := by
  have H : Own w w [] := Own.nil (Wider.refl w)
  have c0 : decide ((4000 : Int) < (s.size : Int)) = false := decide_eq_false (by omega)
  have c1 : decide (4000 < s.size) = false := decide_eq_false (by omega)
  have c2 : ((s.size : Int) == 0) = false := by rw [beq_eq_false_iff_ne]; omega
  have c3 : ¬ s.size = 0 := by omega
  obtain ⟨k, hk⟩ : ∃ P, WithinR s.size n1 P := bwithin_ex _ _ (by omega)
  obtain ⟨m, hm⟩ : ∃ P, WithinR 300 n2 P := bwithin_ex _ _ (by omega)
  obtain ⟨N, hN⟩ : ∃ N : Nat, min (127 : Int) (8 * (s.size : Int) - 1) = (N : Int) := ⟨min 127 (8 * s.size - 1), by omega⟩
  obtain ⟨d, hd⟩ : ∃ P, WithinR N n4 P := bwithin_ex _ _ (by omega)
  obtain ⟨W, hW⟩ : ∃ W : Nat, (1 : Int) + (d : Int) = (W : Int) := ⟨1 + d, by omega⟩
  have k9 := hk.2; have m9 := hm.2; have d9 := hd.2
  have W1 : 1 ≤ W := by omega
  have W2 : W ≤ 128 := by omega
  have W3 : W ≤ 8 * s.size := by omega
  obtain ⟨f, hf⟩ : ∃ P, WithinR (8 * s.size - W) n3 P := bwithin_ex _ _ (by omega)
  have f9 := hf.2
  have zk := within_c s.size n1 (s.size : Int) rfl (by omega) n1l n1h hk
  have zm := within_c 300 n2 300 rfl (by omega) n2l n2h hm
  have zd := within_c N n4 (N : Int) rfl (by omega) n4l n4h hd
  have zf := within_c (8 * s.size - W) n3 (8 * (s.size : Int) - (W : Int)) (by omega) (by omega) n3l n3h hf
  obtain ⟨a, b, hab⟩ := isW_ex (fldW s f W)
  have g1 := getR_of s f W W1 W2 (by omega) hab
  have i1 := insR_of s k m k9 (by omega)
  have z1 : (insT s k m).size = s.size + m := insT_size s k m k9
  have p0 : (0 : Int) ≤ (k : Int) := by omega
  have p1 : (k : Int) ≤ (s.size : Int) := by omega
  by_cases e1 : f + W ≤ 8 * k
  · have e2 : decide ((f : Int) + (W : Int) ≤ 8 * (k : Int)) = true := decide_eq_true (by omega)
    have e3 : decide (f + W ≤ 8 * k) = true := decide_eq_true e1
    have g2 := getR_of (insT s k m) f W W1 W2 (by omega) (by rw [moves_ahead s k m f W k9 W2 e1]; exact hab)
    obtain ⟨M, hM⟩ : ∃ M : Nat, (m : Int) + (s.size : Int) - (k : Int) = (M : Int) := ⟨m + s.size - k, by omega⟩
    have q1 : IntKind.i64.wrap ((m : Int) + (s.size : Int)) = (m : Int) + (s.size : Int) := IntWalk.i64_in _ (by omega)
    have q2 : IntKind.i64.wrap ((m : Int) + (s.size : Int) - (k : Int)) = (M : Int) := by rw [hM]; exact IntWalk.i64_in _ (by omega)
    have q3 : IntKind.i64.wrap (M : Int) = (M : Int) := IntWalk.i64_in _ (by omega)
    have d1 := delR_of (insT s k m) k M (by omega)
    rw [show M = m + s.size - k by omega, ins_del_all s k m k9, show ((m + s.size - k : Nat) : Int) = (M : Int) by omega] at d1
    obtain ⟨E, hE⟩ : ∃ E, s.extract 0 k = E := ⟨_, rfl⟩
    rw [hE] at d1
    obtain ⟨S1, hS1⟩ : ∃ A, insT s k m = A := ⟨_, rfl⟩
    rw [hS1] at i1 g2 d1 z1
    clear hk hm hd hf hab hS1
    go_enter Try.func6, Try.ntmps6
    go_upto_region 15 with (first
          | (go_at_call 11; ((with_reducible refine (awake5_c _).mono ?_); rintro e wa ⟨rfl, g⟩; replace H := H.quiet g; clear g))
          | (go_at_call 24; ((with_reducible refine (zk _).mono ?_); rintro e w9 ⟨rfl, rfl⟩))
          | (go_at_call 24; ((with_reducible refine (zm _).mono ?_); rintro e w9 ⟨rfl, rfl⟩))
          | (go_at_call 24; ((with_reducible refine (zd _).mono ?_); rintro e w9 ⟨rfl, rfl⟩))
          | (go_at_call 24; ((with_reducible refine (zf _).mono ?_); rintro e w9 ⟨rfl, rfl⟩))
          | (go_at_call 25; ((with_reducible refine (of_1 s (by omega) H).mono ?_); clear H; rintro e w1 ⟨p, rfl, H⟩))
          | (go_at_call 16; ((with_reducible refine (bget_1 H (f : Int) (W : Int) (by omega) (by omega) (by omega) (by omega) g1).mono ?_); clear H; rintro e w5 ⟨rfl, H⟩; replace H := H.add a b 32; obtain ⟨k0, k1⟩ := H.word))
          | (go_at_call 13; ((with_reducible refine (bins_1 H (k : Int) (m : Int) (by omega) (by omega) (by omega) (by omega) i1).mono ?_); clear H k0 k1; rintro e w2 ⟨rfl, H⟩; obtain ⟨k0, k1⟩ := H.word))
          | (go_at_call 16; ((with_reducible refine (bget_1 H (f : Int) (W : Int) (by omega) (by omega) (by omega) (by omega) g2).mono ?_); clear H k0 k1; rintro e w6 ⟨rfl, H⟩; replace H := H.add a b 32; obtain ⟨j0, j1⟩ := H.word; obtain ⟨k0, k1⟩ := H.less.word)))
    replace H := H.drew
    go_region_held3 (fun w' => w'.cell? ⟨w6.heap.size, 0, none⟩ = some (.int .u64 a) ∧ w'.cell? ⟨w6.heap.size, 1, none⟩ = some (.int .u64 b) ∧ w'.cell? ⟨w5.heap.size, 0, none⟩ = some (.int .u64 a) ∧ w'.cell? ⟨w5.heap.size, 1, none⟩ = some (.int .u64 b)) (first | assumption | exact ⟨H.word.1, H.word.2, H.less.word.1, H.less.word.2⟩)
      (first
          | (go_at_call 14; ((with_reducible refine (bdel_1 H (k : Int) (M : Int) (by omega) (by omega) (by omega) (by omega) d1).mono ?_); clear H; rintro e w' ⟨rfl, H⟩))
          | (go_at_call 18; ((with_reducible refine (btext_1 H).mono ?_); clear H; rintro e w' ⟨rfl, H⟩)))
    clear k0 k1 j0 j1
    go_wp2
    go_ret
    exact ⟨rfl, H.wider⟩
  · have e2 : decide ((f : Int) + (W : Int) ≤ 8 * (k : Int)) = false := decide_eq_false (by omega)
    have e3 : decide (f + W ≤ 8 * k) = false := decide_eq_false e1
    by_cases e4 : f < 8 * k
    · have e5 : decide ((f : Int) < 8 * (k : Int)) = true := decide_eq_true (by omega)
      have e6 : decide (f < 8 * k) = true := decide_eq_true e4
      obtain ⟨S1, hS1⟩ : ∃ A, insT s k m = A := ⟨_, rfl⟩
      rw [hS1] at i1 z1
      clear hk hm hd hf hab hS1
      go_enter Try.func6, Try.ntmps6
      go_wp2_with (first
          | (go_at_call 11; ((with_reducible refine (awake5_c _).mono ?_); rintro e wa ⟨rfl, g⟩; replace H := H.quiet g; clear g))
          | (go_at_call 24; ((with_reducible refine (zk _).mono ?_); rintro e w9 ⟨rfl, rfl⟩))
          | (go_at_call 24; ((with_reducible refine (zm _).mono ?_); rintro e w9 ⟨rfl, rfl⟩))
          | (go_at_call 24; ((with_reducible refine (zd _).mono ?_); rintro e w9 ⟨rfl, rfl⟩))
          | (go_at_call 24; ((with_reducible refine (zf _).mono ?_); rintro e w9 ⟨rfl, rfl⟩))
          | (go_at_call 25; ((with_reducible refine (of_1 s (by omega) H).mono ?_); clear H; rintro e w1 ⟨p, rfl, H⟩))
          | (go_at_call 16; ((with_reducible refine (bget_1 H (f : Int) (W : Int) (by omega) (by omega) (by omega) (by omega) g1).mono ?_); clear H; rintro e w5 ⟨rfl, H⟩; replace H := H.add a b 32; obtain ⟨k0, k1⟩ := H.word))
          | (go_at_call 13; ((with_reducible refine (bins_1 H (k : Int) (m : Int) (by omega) (by omega) (by omega) (by omega) i1).mono ?_); clear H k0 k1; rintro e w2 ⟨rfl, H⟩; obtain ⟨k0, k1⟩ := H.word)))
      go_ret
      exact ⟨rfl, H.wider⟩
    · have e5 : decide ((f : Int) < 8 * (k : Int)) = false := decide_eq_false (by omega)
      have e6 : decide (f < 8 * k) = false := decide_eq_false e4
      have g2 := getR_of (insT s k m) (f + 8 * m) W W1 W2 (by omega) (by rw [moves_behind s k m f W k9 W2 (by omega)]; exact hab)
      rw [show ((f + 8 * m : Nat) : Int) = (f : Int) + 8 * (m : Int) by omega] at g2
      have d1 := delR_of (insT s k m) 0 (k + m) (by omega)
      rw [ins_del_front s k m k9, Int.natCast_add] at d1
      have g3 := getR_of (s.extract k s.size) (f - 8 * k) W W1 W2 (by rw [ext_size _ _ _ (Nat.le_refl _)]; omega) (by rw [moves_front s k f W k9 W2 (by omega) (by omega)]; exact hab)
      rw [show ((f - 8 * k : Nat) : Int) = (f : Int) - 8 * (k : Int) by omega] at g3
      obtain ⟨E, hE⟩ : ∃ E, s.extract k s.size = E := ⟨_, rfl⟩
      rw [hE] at d1 g3
      obtain ⟨S1, hS1⟩ : ∃ A, insT s k m = A := ⟨_, rfl⟩
      rw [hS1] at i1 g2 d1 z1
      clear hk hm hd hf hab hS1
      go_enter Try.func6, Try.ntmps6
      go_upto_region 22 with (first
          | (go_at_call 11; ((with_reducible refine (awake5_c _).mono ?_); rintro e wa ⟨rfl, g⟩; replace H := H.quiet g; clear g))
          | (go_at_call 24; ((with_reducible refine (zk _).mono ?_); rintro e w9 ⟨rfl, rfl⟩))
          | (go_at_call 24; ((with_reducible refine (zm _).mono ?_); rintro e w9 ⟨rfl, rfl⟩))
          | (go_at_call 24; ((with_reducible refine (zd _).mono ?_); rintro e w9 ⟨rfl, rfl⟩))
          | (go_at_call 24; ((with_reducible refine (zf _).mono ?_); rintro e w9 ⟨rfl, rfl⟩))
          | (go_at_call 25; ((with_reducible refine (of_1 s (by omega) H).mono ?_); clear H; rintro e w1 ⟨p, rfl, H⟩))
          | (go_at_call 16; ((with_reducible refine (bget_1 H (f : Int) (W : Int) (by omega) (by omega) (by omega) (by omega) g1).mono ?_); clear H; rintro e w5 ⟨rfl, H⟩; replace H := H.add a b 32; obtain ⟨k0, k1⟩ := H.word))
          | (go_at_call 13; ((with_reducible refine (bins_1 H (k : Int) (m : Int) (by omega) (by omega) (by omega) (by omega) i1).mono ?_); clear H k0 k1; rintro e w2 ⟨rfl, H⟩; obtain ⟨k0, k1⟩ := H.word))
          | (go_at_call 16; ((with_reducible refine (bget_1 H ((f : Int) + 8 * (m : Int)) (W : Int) (by omega) (by omega) (by omega) (by omega) g2).mono ?_); clear H k0 k1; rintro e w6 ⟨rfl, H⟩; replace H := H.add a b 32; obtain ⟨j0, j1⟩ := H.word; obtain ⟨k0, k1⟩ := H.less.word))
          | (go_at_call 14; ((with_reducible refine (bdel_1 H 0 ((k : Int) + (m : Int)) (by omega) (by omega) (by omega) (by omega) d1).mono ?_); clear H k0 k1 j0 j1; rintro e w3 ⟨rfl, H⟩; replace H := H.less; obtain ⟨k0, k1⟩ := H.word))
          | (go_at_call 16; ((with_reducible refine (bget_1 H ((f : Int) - 8 * (k : Int)) (W : Int) (by omega) (by omega) (by omega) (by omega) g3).mono ?_); clear H k0 k1; rintro e w7 ⟨rfl, H⟩; replace H := H.add a b 32; obtain ⟨j0, j1⟩ := H.word; obtain ⟨k0, k1⟩ := H.less.word)))
      replace H := H.drew
      go_region_held3 (fun w' => w'.cell? ⟨w7.heap.size, 0, none⟩ = some (.int .u64 a) ∧ w'.cell? ⟨w7.heap.size, 1, none⟩ = some (.int .u64 b) ∧ w'.cell? ⟨w5.heap.size, 0, none⟩ = some (.int .u64 a) ∧ w'.cell? ⟨w5.heap.size, 1, none⟩ = some (.int .u64 b)) (first | assumption | exact ⟨H.word.1, H.word.2, H.less.word.1, H.less.word.2⟩)
        (first
          | (go_at_call 18; ((with_reducible refine (btext_1 H).mono ?_); clear H; rintro e w' ⟨rfl, H⟩)))
      clear k0 k1 j0 j1
      go_wp2
      go_ret
      exact ⟨rfl, H.wider⟩

set_option maxRecDepth 100000 in
set_option maxHeartbeats 4000000 in
theorem bufMoves_walk (s : ByteArray) (hm : s.size ≤ maxLen) (n1 : Int) (n1l : -9223372036854775808 ≤ n1) (n1h : n1 ≤ 9223372036854775807) (n2 : Int) (n2l : -9223372036854775808 ≤ n2) (n2h : n2 ≤ 9223372036854775807) (n3 : Int) (n3l : -9223372036854775808 ≤ n3) (n3h : n3 ≤ 9223372036854775807) (n4 : Int) (n4l : -9223372036854775808 ≤ n4) (n4h : n4 ≤ 9223372036854775807) (w : World) :
    Calls Try.prog 6 #[.string s, .int .i64 n1, .int .i64 n2, .int .i64 n3, .int .i64 n4] w fun e w' => e = .returned (.bool true) ∧ Wider w w' := by
  unfold maxLen at hm
  by_cases h0 : s.size ≤ 4000
  · by_cases h1 : 1 ≤ s.size
    · exact bufMoves_ok s n1 n1l n1h n2 n2l n2h n3 n3l n3h n4 n4l n4h h0 h1 w
    · have c2 : ((s.size : Int) == 0) = true := by rw [beq_iff_eq]; omega
      have H : Own w w [] := Own.nil (Wider.refl w)
      go_enter Try.func6, Try.ntmps6
      go_wp2_with (first
        | (go_at_call 11; ((with_reducible refine (awake5_c _).mono ?_); rintro e wa ⟨rfl, g⟩; replace H := H.quiet g; clear g)))
      go_ret
      exact ⟨rfl, H.wider⟩
  · have H : Own w w [] := Own.nil (Wider.refl w)
    have c0 : decide ((4000 : Int) < (s.size : Int)) = true := decide_eq_true (by omega)
    have c1 : decide (4000 < s.size) = true := decide_eq_true (by omega)
    have c2 : ((s.size : Int) == 0) = false := by rw [beq_eq_false_iff_ne]; omega
    go_enter Try.func6, Try.ntmps6
    go_wp2_with (first
      | (go_at_call 11; ((with_reducible refine (awake5_c _).mono ?_); rintro e wa ⟨rfl, g⟩; replace H := H.quiet g; clear g)))
    go_ret
    exact ⟨rfl, H.wider⟩

set_option maxRecDepth 100000 in
theorem bufMoves_lifted (os : Os) (started : os.Started) (H : Type) (enc : TypeId × Value → H) :
    ReturnsInHanded {} Try.checked os 6 .any (Rows.bufMovesSpec.pre6 enc Try.prog Try.f6 Rows.bufMovesRow.domain false) (Rows.bufMovesSpec.post enc Try.prog Try.f6 false true false false) := by
  refine returnsInHanded_of_change (C := Try.checked) own started (by kernel_rfl) Try.func6
    (ChangeSpec.witness6 (enc := enc) (C := Try.checked) false ⟨#[], #[.string ⟨#[]⟩, .int .i64 0, .int .i64 0, .int .i64 0, .int .i64 0], []⟩ 8 (by kernel_rfl) (by kernel_rfl) (by kernel_rfl) (by kernel_rfl)) ?_
  intro W base args ds gs before hval0 hW hcnd _
  have hval : ∀ (j : Nat) t v, Try.f6.params[j]? = some t → args[j]? = some v → Value.okWide Try.prog W .any base t v := hval0
  have hW' := hW
  obtain ⟨p, q, hA0, hV, rfl, hfz, hnd⟩ := hW
  have hA : DataW.TrodAll enc Try.prog W 0 (fun _ => true) true Try.f6.params.toList args.toList ds p := hA0
  rw [Try.params6] at hA hval
  obtain ⟨v0, vs0, d0, ds0, p0, q0, hargs, rfl, rfl, h0, r0⟩ := trodAll_cons hA
  obtain ⟨v1, vs1, d1, ds1, p1, q1, rfl, rfl, rfl, h1, r1⟩ := trodAll_cons r0
  obtain ⟨v2, vs2, d2, ds2, p2, q2, rfl, rfl, rfl, h2, r2⟩ := trodAll_cons r1
  obtain ⟨v3, vs3, d3, ds3, p3, q3, rfl, rfl, rfl, h3, r3⟩ := trodAll_cons r2
  obtain ⟨v4, vs4, d4, ds4, p4, q4, rfl, rfl, rfl, h4, r4⟩ := trodAll_cons r3
  obtain ⟨rfl, rfl, rfl⟩ := trodAll_nil r4
  obtain rfl : args = #[v0, v1, v2, v3, v4] := by cases args; simp_all
  obtain ⟨rfl, rfl⟩ := trodVars_none hV
  obtain ⟨s0, rfl, rfl, rfl, w0⟩ := open_string Try.underlying9 (hval 0 9 v0 rfl rfl) h0
  obtain ⟨n1, rfl, rfl, rfl, w1⟩ := open_int Try.underlying3 (hval 1 3 v1 rfl rfl) h1
  obtain ⟨n2, rfl, rfl, rfl, w2⟩ := open_int Try.underlying3 (hval 2 3 v2 rfl rfl) h2
  obtain ⟨n3, rfl, rfl, rfl, w3⟩ := open_int Try.underlying3 (hval 3 3 v3 rfl rfl) h3
  obtain ⟨n4, rfl, rfl, rfl, w4⟩ := open_int Try.underlying3 (hval 4 3 v4 rfl rfl) h4
  clear hA0 hval0
  simp only [List.append_nil] at hW'
  refine (bufMoves_walk s0 w0 n1 (bounds_i64 w1).1 (bounds_i64 w1).2 n2 (bounds_i64 w2).1 (bounds_i64 w2).2 n3 (bounds_i64 w3).1 (bounds_i64 w3).2 n4 (bounds_i64 w4).1 (bounds_i64 w4).2 W).mono fun e W' ⟨he, hg⟩ => ?_
  subst he
  exact ⟨_, rfl, post_of_none hW' (fun _ _ _ => (trodAll_cons_mk (shut_bool Try.underlying4 _) trodAll_mk0)) (fun sp => (trodAll_cons_mk (shut_string Try.underlying9 w0) (trodAll_cons_mk (shut_int Try.underlying3 w1) (trodAll_cons_mk (shut_int Try.underlying3 w2) (trodAll_cons_mk (shut_int Try.underlying3 w3) (trodAll_cons_mk (shut_int Try.underlying3 w4) trodAll_mk0)))))) (fun _ => rfl)
    hg.1 (ok_one (by kernel_rfl) rfl (okWide_bool_mk Try.underlying4 _))⟩

theorem bufMoves_holds : Rows.BufMovesSaid :=
  OpenClaim.holds_of_wide 6 Try.f6 rfl rfl rfl rfl rfl rfl rfl ⟨rfl, rfl, rfl, rfl, rfl⟩ rfl rfl rfl rfl rfl (by kernel_rfl) Try.func6 (by kernel_rfl)
    (of_decide_eq_true (by kernel_rfl)) (by unfold Func.isWrapper; first | (rw [if_pos (by decide +kernel)]; kernel_rfl) | (rw [if_neg (by decide +kernel)]; exact ⟨rfl, rfl⟩))
    (fun os started H enc _ => bufMoves_lifted os started H enc)

#print axioms bufMoves_holds

end Go.Proofs.Ytlgllgdaodfocaa
