/- The law BufNames: the examples; texts at the limit; each error; buffers of nil. A closed statement: no condition. -/
import Derived.Test.YtlgllgdaodfocaaBAwake
import Derived.Test.YtlgllgdaodfocaaFrame
import Derived.Lib.Hide
import Derived.Deep.DeepCutAuto
import Derived.WalkLawsBesides
import Derived.WalkSpells
import Derived.BigQuiet
import Derived.BigRegion
import Derived.Deep.RegionHeld3
namespace Go.Proofs.Ytlgllgdaodfocaa
set_option linter.unusedVariables false
open Go.ChangeShapes Go.WideShapes Go.ChangeAt Go.RowKit Go.Joins
open Go.ChangeMaps (open_string shut_string)

theorem insR_bad (s : ByteArray) (a n r : Int) (h : insE s.size a n = r) (hr : r ≠ 0) : InsR s a n s r := ⟨h, fun k => absurd k hr, fun _ => rfl⟩
theorem delR_bad (s : ByteArray) (a n r : Int) (h : cutE s.size a n = r) (hr : r ≠ 0) : DelR s a n s r := ⟨h, fun k => absurd k hr, fun _ => rfl⟩
theorem bsumR_bad (s : ByteArray) (a n r : Int) (h : cutE s.size a n = r) (hr : r ≠ 0) : BSumR s a n 0 r := ⟨h, fun k => absurd k hr, fun _ => rfl⟩
theorem bputR_bad (s : ByteArray) (a n r : Int) (x : BitVec 128) (h : errF s.size a n = r) (hr : r ≠ 0) : BPutR s a n x s r := ⟨h, fun k => absurd k hr, fun _ => rfl⟩
theorem getR_bad (s : ByteArray) (a n r : Int) (h : errF s.size a n = r) (hr : r ≠ 0) : GetR s a n 0 0 r := ⟨h, fun k => absurd k hr, fun _ => ⟨rfl, rfl⟩⟩
theorem ins_none (s : ByteArray) (a : Nat) (h : a ≤ s.size) : insT s a 0 = s := text_ext (by rw [insT_size s a 0 h]; omega) fun j _ => by
  rw [byteS_ins s a 0 j h]
  by_cases c : j < a
  · rw [if_pos c]
  · rw [if_neg c, if_neg (by omega), Nat.sub_zero]
theorem del_none (s : ByteArray) (a : Nat) (h : a ≤ s.size) : delT s a 0 = s := text_ext (by rw [delT_size s a 0 (by omega)]; omega) fun j _ => by
  rw [byteS_del s a 0 j (by omega)]
  by_cases c : j < a
  · rw [if_pos c]
  · rw [if_neg c, Nat.add_zero]
/-- The longest text of 0s, with a last bit. -/
theorem last_bytes (j : Nat) (hj : j < 9216) : byteS (putT (zerosB 9216) 73727 1 3#128) j = if j = 9215 then 1 else 0 := by
  have e := byteS_textB (putB (zerosB 9216) 73727 1 3#128 1) (zerosB 9216).size j (putB_le _ _ _ _ _) (by rw [zerosB_size]; exact hj)
  unfold putT
  rw [e]
  have z : ∀ p, bitS (zerosB 9216) p = 0 := fun p => by unfold bitS; rw [byteS_zeros]; simp
  have f : ∀ p, putB (zerosB 9216) 73727 1 3#128 1 p = if p = 73727 then 1 else 0 := fun p => by
    unfold putB
    by_cases c : p = 73727
    · subst c; rw [if_pos (by omega), if_pos rfl]; decide
    · rw [if_neg (by omega), if_neg c, z]
  by_cases c : j = 9215
  · subst c
    rw [if_pos rfl]
    unfold byteB
    simp only [f]
    decide
  · rw [if_neg c]
    unfold byteB
    simp only [f]
    rw [if_neg (by omega), if_neg (by omega), if_neg (by omega), if_neg (by omega), if_neg (by omega), if_neg (by omega), if_neg (by omega), if_neg (by omega)]
theorem last_text : putT (zerosB 9216) 73727 1 3#128 = zerosB 9215 ++ ⟨#[1]⟩ := by
  refine text_ext (by rw [putT_size, zerosB_size, ByteArray.size_append, zerosB_size]; rfl) fun j hj => ?_
  rw [putT_size, zerosB_size] at hj
  rw [last_bytes j hj, byteS_app, zerosB_size]
  by_cases c : j = 9215
  · subst c; rw [if_pos rfl, if_neg (by omega)]; rfl
  · rw [if_neg c, if_pos (by omega), byteS_zeros]
theorem last_sum : sumS ((putT (zerosB 9216) 73727 1 3#128).extract 0 (0 + 9216)).data.toList = 1 := by
  have e : (putT (zerosB 9216) 73727 1 3#128).extract 0 (0 + 9216) = putT (zerosB 9216) 73727 1 3#128 := by
    refine text_ext (by rw [ext_size _ _ _ (by rw [putT_size, zerosB_size]; omega), putT_size, zerosB_size]) fun j hj => ?_
    rw [byteS_ext _ _ _ _ (by rw [putT_size, zerosB_size]; omega)]
    rw [ext_size _ _ _ (by rw [putT_size, zerosB_size]; omega)] at hj
    rw [if_pos (by omega), Nat.zero_add]
  rw [e, last_text, ByteArray.data_append, Array.toList_append]
  have z : (zerosB 9215).data.toList = List.replicate 9215 0 := rfl
  unfold sumS
  rw [z, wsum_odd _ _ (by rw [List.length_replicate]), wsum_zeros]
  rfl
theorem last_del : delT (putT (zerosB 9216) 73727 1 3#128) 1 9214 = ⟨#[0, 1]⟩ := by
  have s1 : (putT (zerosB 9216) 73727 1 3#128).size = 9216 := by rw [putT_size, zerosB_size]
  refine text_ext (by rw [delT_size _ _ _ (by omega), s1]; rfl) fun j hj => ?_
  rw [delT_size _ _ _ (by omega), s1] at hj
  rw [byteS_del _ _ _ _ (by omega)]
  rcases (show j = 0 ∨ j = 1 by omega) with rfl | rfl
  · rw [if_pos (by omega), last_bytes 0 (by omega)]; rfl
  · rw [if_neg (by omega), last_bytes (1 + 9214) (by omega)]; rfl
theorem isW_3 : IsW 0 3 3#128 := ⟨by decide, by decide⟩
theorem isW_0 : IsW 0 0 0#128 := ⟨by decide, by decide⟩

set_option maxRecDepth 100000 in
set_option maxHeartbeats 16000000 in
theorem bufNames_walk (w : World) :
    Calls Try.prog 3 #[] w fun e w' => e = .returned (.bool true) ∧ Wider w w' := by
  have H : Own w w [] := Own.nil (Wider.refl w)
  have hmk : ∀ W : World, (Instr.makeSlice 23 (.int .i64 9216) (.int .i64 9216)).run Try.prog W = .ok (.slice (some ⟨W.heap.size, 0, none⟩) 9216 9216) (W.alloc (.cells (zerosN 9216) 5)) := makeN 9216 (by omega)
  have hcv : ∀ W : World, (convert 23 9 (.slice (some ⟨W.heap.size, 0, none⟩) 9216 9216)).run Try.prog (W.alloc (.cells (zerosN 9216) 5)) = .ok (.string (zerosB 9216)) (W.alloc (.cells (zerosN 9216) 5)) := fun W => (Bts.made W 9216).conv 9216 (zerosB_conv 9216)
  obtain ⟨ZN, hZN⟩ : ∃ ZN, zerosN 9216 = ZN := ⟨_, rfl⟩
  rw [hZN] at hmk
  simp only [hZN] at hcv
  clear hZN
  obtain ⟨Z, hZ⟩ : ∃ Z, zerosB 9216 = Z := ⟨_, rfl⟩
  have zs : Z.size = 9216 := by rw [← hZ]; exact zerosB_size 9216
  obtain ⟨Y, hY⟩ : ∃ Y, putT Z 73727 1 3#128 = Y := ⟨_, rfl⟩
  have ys : Y.size = 9216 := by rw [← hY, putT_size, zs]
  have hb := last_bytes 9215 (by omega)
  have hs := last_sum
  have hd := last_del
  rw [hZ] at hb hs hd hcv
  rw [hY] at hb hs hd
  have hg : fldW Y 73720 8 = BitVec.ofNat 128 1 := fldW_byte Y 9215 hb
  obtain ⟨Q, hQ⟩ : ∃ Q, Z ++ ⟨#[97]⟩ = Q := ⟨_, rfl⟩
  have qs : Q.size = 9217 := by rw [← hQ, ByteArray.size_append, zs]; rfl
  have ha : ∀ W : World, (Op.stringOp .add Z ⟨#[97]⟩).run Try.prog W = .ok (.string Q) W := fun W => by
    rw [run_string_add_sum W _ _ (by rw [zs]; decide), hQ]
  have i0 : InsR Z 0 1 Z 5 := insR_bad Z _ _ _ (by rw [zs]; decide) (by decide)
  have i1 : InsR Z 9217 1 Z 4 := insR_bad Z _ _ _ (by rw [zs]; decide) (by decide)
  have i2 : InsR Z (-1) 4611686018427387904 Z 1 := insR_bad Z _ _ _ (by rw [zs]; decide) (by decide)
  have i3 : InsR Z 0 (-1) Z 1 := insR_bad Z _ _ _ (by rw [zs]; decide) (by decide)
  have i4 : InsR Z 5 4611686018427387904 Z 5 := insR_bad Z _ _ _ (by rw [zs]; decide) (by decide)
  have i9 : InsR Z 9216 0 Z 0 := ⟨by rw [zs]; decide, fun _ => ins_none Z 9216 (by omega), fun k => absurd rfl k⟩
  have d0 : DelR Z 9216 1 Z 4 := delR_bad Z _ _ _ (by rw [zs]; decide) (by decide)
  have d1 : DelR Z 4611686018427387904 4611686018427387904 Z 4 := delR_bad Z _ _ _ (by rw [zs]; decide) (by decide)
  have d2 : DelR Z (-1) 0 Z 1 := delR_bad Z _ _ _ (by rw [zs]; decide) (by decide)
  have d3 : DelR Z 5 (-1) Z 1 := delR_bad Z _ _ _ (by rw [zs]; decide) (by decide)
  have d9 : DelR Z 9216 0 Z 0 := ⟨by rw [zs]; decide, fun _ => del_none Z 9216 (by omega), fun k => absurd rfl k⟩
  have p0 : BPutR Z 73727 1 3#128 Y 0 := ⟨by rw [zs]; decide, fun _ => hY, fun k => absurd rfl k⟩
  have p1 : BPutR Y 73728 1 0#128 Y 4 := bputR_bad Y _ _ _ _ (by rw [ys]; decide) (by decide)
  have p2 : BPutR Y 0 129 0#128 Y 1 := bputR_bad Y _ _ _ _ (by rw [ys]; decide) (by decide)
  have p3 : BPutR Y (-1) 1 0#128 Y 1 := bputR_bad Y _ _ _ _ (by rw [ys]; decide) (by decide)
  have g0 : GetR Y 73720 8 0 1 0 := ⟨by rw [ys]; decide, fun _ => by show IsW 0 1 (fldW Y 73720 8); rw [hg]; exact ⟨by decide, by decide⟩, fun k => absurd rfl k⟩
  have g1 : GetR Y 73721 8 0 0 4 := getR_bad Y _ _ _ (by rw [ys]; decide) (by decide)
  have g2 : GetR Y 0 0 0 0 1 := getR_bad Y _ _ _ (by rw [ys]; decide) (by decide)
  have g3 : GetR Y 4611686018427387904 128 0 0 4 := getR_bad Y _ _ _ (by rw [ys]; decide) (by decide)
  have s0 : BSumR Y 0 9217 0 4 := bsumR_bad Y _ _ _ (by rw [ys]; decide) (by decide)
  have s1 : BSumR Y (-1) 0 0 1 := bsumR_bad Y _ _ _ (by rw [ys]; decide) (by decide)
  have s2 : BSumR Y 0 9216 1 0 := ⟨by rw [ys]; decide, fun _ => hs, fun k => absurd rfl k⟩
  have e0 : DelR Y 1 9214 ⟨#[0, 1]⟩ 0 := ⟨by rw [ys]; decide, fun _ => hd, fun k => absurd rfl k⟩
  clear hb hs hd hg hZ hY hQ
  go_enter Try.func3, Try.ntmps3
  go_upto_region 8 with (first
          | (go_at_call 11; ((with_reducible refine (awake5_c _).mono ?_); rintro e wa ⟨rfl, g⟩; replace H := H.quiet g; clear g))
          | (go_at_call 12; ((with_reducible refine (bnew_1 Z (by omega) (H.quiet ((Wider.refl _).alloc _))).mono ?_); clear H; rintro e w1 ⟨p, rfl, H⟩))
          | (go_at_call 12; ((with_reducible refine (bnew_long Q (by omega) (by omega) _).mono ?_); rintro e w1 ⟨rfl, g⟩; replace H := H.quiet g; clear g))
          | (go_at_call 13; ((with_reducible refine (bins_1 H 0 1 (by decide) (by decide) (by decide) (by decide) i0).mono ?_); clear H; rintro e w1 ⟨rfl, H⟩))
          | (go_at_call 13; ((with_reducible refine (bins_1 H 9217 1 (by decide) (by decide) (by decide) (by decide) i1).mono ?_); clear H; rintro e w1 ⟨rfl, H⟩))
          | (go_at_call 13; ((with_reducible refine (bins_1 H (-1) 4611686018427387904 (by decide) (by decide) (by decide) (by decide) i2).mono ?_); clear H; rintro e w1 ⟨rfl, H⟩))
          | (go_at_call 13; ((with_reducible refine (bins_1 H 0 (-1) (by decide) (by decide) (by decide) (by decide) i3).mono ?_); clear H; rintro e w1 ⟨rfl, H⟩))
          | (go_at_call 13; ((with_reducible refine (bins_1 H 5 4611686018427387904 (by decide) (by decide) (by decide) (by decide) i4).mono ?_); clear H; rintro e w1 ⟨rfl, H⟩))
          | (go_at_call 13; ((with_reducible refine (bins_1 H 9216 0 (by decide) (by decide) (by decide) (by decide) i9).mono ?_); clear H; rintro e w1 ⟨rfl, H⟩))
          | (go_at_call 14; ((with_reducible refine (bdel_1 H 9216 1 (by decide) (by decide) (by decide) (by decide) d0).mono ?_); clear H; rintro e w1 ⟨rfl, H⟩))
          | (go_at_call 14; ((with_reducible refine (bdel_1 H 4611686018427387904 4611686018427387904 (by decide) (by decide) (by decide) (by decide) d1).mono ?_); clear H; rintro e w1 ⟨rfl, H⟩))
          | (go_at_call 14; ((with_reducible refine (bdel_1 H (-1) 0 (by decide) (by decide) (by decide) (by decide) d2).mono ?_); clear H; rintro e w1 ⟨rfl, H⟩))
          | (go_at_call 14; ((with_reducible refine (bdel_1 H 5 (-1) (by decide) (by decide) (by decide) (by decide) d3).mono ?_); clear H; rintro e w1 ⟨rfl, H⟩))
          | (go_at_call 14; ((with_reducible refine (bdel_1 H 9216 0 (by decide) (by decide) (by decide) (by decide) d9).mono ?_); clear H; rintro e w1 ⟨rfl, H⟩))
          | (go_at_call 15; ((with_reducible refine (bput_1 H 73727 1 3#128 (by decide) (by decide) (by decide) (by decide) isW_3 p0).mono ?_); clear H; rintro e w1 ⟨rfl, H⟩))
          | (go_at_call 15; ((with_reducible refine (bput_1 H 73728 1 0#128 (by decide) (by decide) (by decide) (by decide) isW_0 p1).mono ?_); clear H; rintro e w1 ⟨rfl, H⟩))
          | (go_at_call 15; ((with_reducible refine (bput_1 H 0 129 0#128 (by decide) (by decide) (by decide) (by decide) isW_0 p2).mono ?_); clear H; rintro e w1 ⟨rfl, H⟩))
          | (go_at_call 15; ((with_reducible refine (bput_1 H (-1) 1 0#128 (by decide) (by decide) (by decide) (by decide) isW_0 p3).mono ?_); clear H; rintro e w1 ⟨rfl, H⟩)))
  clear i0 i1 i2 i3 i4 i9 d0 d1 d2 d3 d9 p0 p1 p2 p3 hmk hcv ha
  as_aux_lemma =>
    go_upto_region 15 with (first
          | (go_at_call 16; ((with_reducible refine (bget_1 H 73720 8 (by decide) (by decide) (by decide) (by decide) g0).mono ?_); clear H; rintro e w1 ⟨rfl, H⟩; replace H := H.add 0 1 32; obtain ⟨k0, k1⟩ := H.word))
          | (go_at_call 16; ((with_reducible refine (bget_1 H 73721 8 (by decide) (by decide) (by decide) (by decide) g1).mono ?_); clear H k0 k1; rintro e w1 ⟨rfl, H⟩; replace H := H.alloc (.cells #[.int .u64 0, .int .u64 0] 32); obtain ⟨k0, k1⟩ := H.word))
          | (go_at_call 16; ((with_reducible refine (bget_1 H 0 0 (by decide) (by decide) (by decide) (by decide) g2).mono ?_); clear H k0 k1; rintro e w1 ⟨rfl, H⟩; replace H := H.alloc (.cells #[.int .u64 0, .int .u64 0] 32); obtain ⟨k0, k1⟩ := H.word))
          | (go_at_call 16; ((with_reducible refine (bget_1 H 4611686018427387904 128 (by decide) (by decide) (by decide) (by decide) g3).mono ?_); clear H k0 k1; rintro e w1 ⟨rfl, H⟩; replace H := H.alloc (.cells #[.int .u64 0, .int .u64 0] 32); obtain ⟨k0, k1⟩ := H.word))
          | (go_at_call 17; ((with_reducible refine (bsum_1 H 0 9217 (by decide) (by decide) (by decide) (by decide) s0).mono ?_); clear H k0 k1; rintro e w1 ⟨rfl, H⟩; obtain ⟨k0, k1⟩ := H.word))
          | (go_at_call 17; ((with_reducible refine (bsum_1 H (-1) 0 (by decide) (by decide) (by decide) (by decide) s1).mono ?_); clear H k0 k1; rintro e w1 ⟨rfl, H⟩; obtain ⟨k0, k1⟩ := H.word))
          | (go_at_call 17; ((with_reducible refine (bsum_1 (v := 1) H 0 9216 (by decide) (by decide) (by decide) (by decide) s2).mono ?_); clear H k0 k1; rintro e w1 ⟨rfl, H⟩; obtain ⟨k0, k1⟩ := H.word)))
    clear g0 g1 g2 g3 s0 s1 s2
    go_upto_region 18 with (first
          | (go_at_call 14; ((with_reducible refine (bdel_1 H 1 9214 (by decide) (by decide) (by decide) (by decide) e0).mono ?_); clear H k0 k1; rintro e w1 ⟨rfl, H⟩; obtain ⟨k0, k1⟩ := H.word))
          | (go_at_call 18; ((with_reducible refine (btext_1 H).mono ?_); clear H k0 k1; rintro e w1 ⟨rfl, H⟩; obtain ⟨k0, k1⟩ := H.word)))
    go_wp2_with (first
          | (go_at_call 16; ((with_reducible refine (bnil_get 0 8 _).mono ?_); clear k0 k1; rintro e w2 ⟨rfl, g⟩; replace H := H.quiet g; clear g; replace H := H.alloc (.cells #[.int .u64 0, .int .u64 0] 32); obtain ⟨k0, k1⟩ := H.word))
          | (go_at_call 17; ((with_reducible refine (bnil_sum 0 0 _).mono ?_); clear k0 k1; rintro e w2 ⟨rfl, g⟩; replace H := H.quiet g; clear g; obtain ⟨k0, k1⟩ := H.word))
          | (go_at_call 15; ((with_reducible refine (bnil_put 0 8 0 1 _).mono ?_); clear k0 k1; rintro e w2 ⟨rfl, g⟩; replace H := H.quiet g; clear g; obtain ⟨k0, k1⟩ := H.word))
          | (go_at_call 13; ((with_reducible refine (bnil_ins 0 1 _).mono ?_); clear k0 k1; rintro e w2 ⟨rfl, g⟩; replace H := H.quiet g; clear g; obtain ⟨k0, k1⟩ := H.word))
          | (go_at_call 14; ((with_reducible refine (bnil_del 0 0 _).mono ?_); clear k0 k1; rintro e w2 ⟨rfl, g⟩; replace H := H.quiet g; clear g; obtain ⟨k0, k1⟩ := H.word))
          | (go_at_call 19; ((with_reducible refine (bnil_len _).mono ?_); clear k0 k1; rintro e w2 ⟨rfl, g⟩; replace H := H.quiet g; clear g; obtain ⟨k0, k1⟩ := H.word))
          | (go_at_call 18; ((with_reducible refine (bnil_text _).mono ?_); clear k0 k1; rintro e w2 ⟨rfl, g⟩; replace H := H.quiet g; clear g; obtain ⟨k0, k1⟩ := H.word))
          | (go_at_call 20; ((with_reducible refine (bnil_copy _).mono ?_); clear k0 k1; rintro e w2 ⟨rfl, g⟩; replace H := H.quiet g; clear g; obtain ⟨k0, k1⟩ := H.word)))
    go_ret
    exact ⟨rfl, H.wider⟩

set_option maxRecDepth 100000 in
theorem bufNames_lifted (os : Os) (started : os.Started) (H : Type) (enc : TypeId × Value → H) :
    ReturnsInHanded {} Try.checked os 3 .any (Rows.bufNamesSpec.pre6 enc Try.prog Try.f3 Rows.bufNamesRow.domain false) (Rows.bufNamesSpec.post enc Try.prog Try.f3 false true false false) := by
  refine returnsInHanded_of_change (C := Try.checked) own started (by kernel_rfl) Try.func3
    (ChangeSpec.witness6 (enc := enc) (C := Try.checked) false ⟨#[], #[], []⟩ 8 (by kernel_rfl) (by kernel_rfl) (by kernel_rfl) (by kernel_rfl)) ?_
  intro W base args ds gs before hval0 hW hcnd _
  have hval : ∀ (j : Nat) t v, Try.f3.params[j]? = some t → args[j]? = some v → Value.okWide Try.prog W .any base t v := hval0
  have hW' := hW
  obtain ⟨p, q, hA0, hV, rfl, hfz, hnd⟩ := hW
  have hA : DataW.TrodAll enc Try.prog W 0 (fun _ => true) true Try.f3.params.toList args.toList ds p := hA0
  rw [Try.params3] at hA hval
  obtain ⟨hargs, rfl, rfl⟩ := trodAll_nil hA
  obtain rfl : args = #[] := by cases args; simp_all
  obtain ⟨rfl, rfl⟩ := trodVars_none hV
  clear hA0 hval0
  simp only [List.append_nil] at hW'
  refine (bufNames_walk  W).mono fun e W' ⟨he, hg⟩ => ?_
  subst he
  exact ⟨_, rfl, post_of_none hW' (fun _ _ _ => (trodAll_cons_mk (shut_bool Try.underlying4 _) trodAll_mk0)) (fun sp => trodAll_mk0) (fun _ => rfl)
    hg.1 (ok_one (by kernel_rfl) rfl (okWide_bool_mk Try.underlying4 _))⟩

theorem bufNames_holds : Rows.BufNamesSaid :=
  OpenClaim.holds_of_wide 3 Try.f3 rfl rfl rfl rfl rfl rfl rfl ⟨rfl, rfl, rfl, rfl, rfl⟩ rfl rfl rfl rfl rfl (by kernel_rfl) Try.func3 (by kernel_rfl)
    (of_decide_eq_true (by kernel_rfl)) (by unfold Func.isWrapper; first | (rw [if_pos (by decide +kernel)]; kernel_rfl) | (rw [if_neg (by decide +kernel)]; exact ⟨rfl, rfl⟩))
    (fun os started H enc _ => bufNames_lifted os started H enc)

#print axioms bufNames_holds

end Go.Proofs.Ytlgllgdaodfocaa
