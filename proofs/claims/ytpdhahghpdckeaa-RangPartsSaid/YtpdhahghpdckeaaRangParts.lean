/- A key is within a range just if it is by each part alone; the low and the high key of a range are within it: for all texts, the statement's function returns true. -/
import Derived.Test.YtpdhahghpdckeaaVThree
import Derived.Test.YtpdhahghpdckeaaOpen
import Derived.Test.YtpdhahghpdckeaaSOpen
namespace Go.Proofs.Ytpdhahghpdckeaa
set_option linter.unusedVariables false
open Go.ChangeShapes Go.WideShapes Go.ChangeAt Go.RowKit Go.Joins Go.Maps Go.ChangeMaps

set_option maxRecDepth 100000 in
set_option maxHeartbeats 8000000 in
theorem rangParts_walk (low : ByteArray) (hl0 : low.size ≤ maxLen) (high : ByteArray) (hh0 : high.size ≤ maxLen) (key : ByteArray) (hk0 : key.size ≤ maxLen) (w : World) :
    Calls Try.prog 6 #[.string low, .string high, .string key] w fun e w' => e = .returned (.bool true) ∧ Wider w w' := by
  have H := Wider.refl w
  by_cases hl : low.size = 3
  · by_cases hh : high.size = 3
    · by_cases hk : key.size = 3
      · have z1 : ((low.size : Int) != 3) = false := by rw [hl]; rfl
        have z2 : ((high.size : Int) != 3) = false := by rw [hh]; rfl
        have z3 : ((key.size : Int) != 3) = false := by rw [hk]; rfl
        have HH := Lib.hid (And.intro hl (And.intro hh hk))
        have HO : Own w w [] := Own.nil (Wider.refl w)
        clear hl hh hk hl0 hh0 hk0
        go_enter Try.func6, Try.ntmps6
        go_upto_region 8 with (first
          | (go_at_call 8; ((with_reducible refine (awake13_c _).mono ?_); rintro e wa ⟨rfl, g⟩; replace H := H.trans g; have HO2 := (HO.quiet g).quiet ((Wider.refl wa).alloc (.cells #[.int .i64 2, .int .i64 1] 3)); have W1 : WidthsAt (wa.alloc (.cells #[.int .i64 2, .int .i64 1] 3)) (some ⟨wa.heap.size, 0, none⟩) [2, 1] := widths_lit wa [2, 1]; clear g HO))
          | (go_at_call 9; ((with_reducible refine (vnew_o HO2 (n := 2) (c := 2) W1 rfl (by decide) (by decide) (by decide)).mono ?_); rintro e w1 ⟨S1, rfl, K1⟩; clear HO2 W1; replace K1 := K1.quiet ((Wider.refl w1).alloc (.cells #[.int .i64 2] 3)); have W2 : WidthsAt (w1.alloc (.cells #[.int .i64 2] 3)) (some ⟨w1.heap.size, 0, none⟩) [2] := widths_lit w1 [2]))
          | (go_at_call 9; ((with_reducible refine (vnew2_o K1 (n := 1) (c := 1) W2 rfl (by decide) (by decide) (by decide)).mono ?_); rintro e w2 ⟨S2, rfl, K2⟩; clear K1 W2; replace K2 := K2.quiet ((Wider.refl w2).alloc (.cells #[.int .i64 1] 3)); have W3 : WidthsAt (w2.alloc (.cells #[.int .i64 1] 3)) (some ⟨w2.heap.size, 0, none⟩) [1] := widths_lit w2 [1]))
          | (go_at_call 9; ((with_reducible refine (vnew3_o K2 (n := 1) (c := 1) W3 rfl (by decide) (by decide) (by decide)).mono ?_); rintro e w3 ⟨S3, rfl, K3⟩; clear K2 W3)))
        obtain ⟨hl, hh, hk⟩ := HH.out
        obtain ⟨f1, f2, f3⟩ := form_parts (p := 0) (v := 1) hl hh
        have hip := inK_parts low low high 0 1
        have hik := inK_parts key low high 0 1
        have e1 : (2 : Int) ≤ (low.size : Int) := by omega
        have e2 : (2 : Int) ≤ (high.size : Int) := by omega
        have e3 : (2 : Int) ≤ (key.size : Int) := by omega
        have FH := Lib.hid (And.intro f1 (And.intro f2 (And.intro f3 (And.intro hip hik))))
        have KQ := K3.rot.rot
        have MAIN : ∀ (ra rb rc : Int) (LA LB LC : List ItR), ((FormR [2, 1] ⟨low, high, 0, 1⟩ ∧ ra = 0 ∧ LA = butR [] ⟨low, high, 0, 1⟩ ++ [⟨low, high, 0, 1⟩]) ∨ (¬ FormR [2, 1] ⟨low, high, 0, 1⟩ ∧ ra = 3 ∧ LA = [])) →
            ((FormR [2] ⟨low.extract 0 2, high.extract 0 2, 0, 1⟩ ∧ rb = 0 ∧ LB = butR [] ⟨low.extract 0 2, high.extract 0 2, 0, 1⟩ ++ [⟨low.extract 0 2, high.extract 0 2, 0, 1⟩]) ∨ (¬ FormR [2] ⟨low.extract 0 2, high.extract 0 2, 0, 1⟩ ∧ rb = 3 ∧ LB = [])) →
            ((FormR [1] ⟨low.extract 2 3, high.extract 2 3, 0, 1⟩ ∧ rc = 0 ∧ LC = butR [] ⟨low.extract 2 3, high.extract 2 3, 0, 1⟩ ++ [⟨low.extract 2 3, high.extract 2 3, 0, 1⟩]) ∨ (¬ FormR [1] ⟨low.extract 2 3, high.extract 2 3, 0, 1⟩ ∧ rc = 3 ∧ LC = [])) →
            (∀ W, RangThree w W [] ⟨S1, [2, 1], [], 0⟩ ⟨S3, [1], [], 0⟩ ⟨S2, [2], [], 0⟩ → Calls Try.prog 10 #[.pointer (some ⟨S1, 0, none⟩), .string low, .string high, .int .i64 0, .int .i64 1] W fun e w' => e = .returned (.int .i64 ra) ∧ RangThree w w' [] ⟨S1, [2, 1], LA, 1⟩ ⟨S3, [1], [], 0⟩ ⟨S2, [2], [], 0⟩) ∧
            (∀ W, RangThree w W [] ⟨S2, [2], [], 0⟩ ⟨S1, [2, 1], LA, 1⟩ ⟨S3, [1], [], 0⟩ → Calls Try.prog 10 #[.pointer (some ⟨S2, 0, none⟩), .string (low.extract 0 2), .string (high.extract 0 2), .int .i64 0, .int .i64 1] W fun e w' => e = .returned (.int .i64 rb) ∧ RangThree w w' [] ⟨S2, [2], LB, 1⟩ ⟨S1, [2, 1], LA, 1⟩ ⟨S3, [1], [], 0⟩) ∧
            (∀ W, RangThree w W [] ⟨S3, [1], [], 0⟩ ⟨S2, [2], LB, 1⟩ ⟨S1, [2, 1], LA, 1⟩ → Calls Try.prog 10 #[.pointer (some ⟨S3, 0, none⟩), .string (low.extract 2 3), .string (high.extract 2 3), .int .i64 0, .int .i64 1] W fun e w' => e = .returned (.int .i64 rc) ∧ RangThree w w' [] ⟨S3, [1], LC, 1⟩ ⟨S2, [2], LB, 1⟩ ⟨S1, [2, 1], LA, 1⟩) :=
          fun ra rb rc LA LB LC ha hb hc => ⟨fun W h => h.on fun R' k => vput_x k (by show (0 : Nat) < 99990; decide) ha, fun W h => h.on fun R' k => vput_x k (by show (0 : Nat) < 99990; decide) hb, fun W h => h.on fun R' k => vput_x k (by show (0 : Nat) < 99990; decide) hc⟩
        clear K3 f1 f2 f3 hip hik
        cases hb : inK [2] (low.extract 0 2) ⟨low.extract 0 2, high.extract 0 2, 0, 1⟩ with
        | false =>
          cases hc : inK [1] (low.extract 2 3) ⟨low.extract 2 3, high.extract 2 3, 0, 1⟩ with
          | false =>
            obtain ⟨f1, f2, f3, hip, hik⟩ := FH.out
            rw [hb, hc] at hip
            obtain ⟨zA, zB, zC⟩ := MAIN 3 3 3 _ _ _ (.inr ⟨fun q => absurd (hip.symm.trans (f1.1 q)) (by decide), rfl, rfl⟩) (.inr ⟨fun q => absurd (hb.symm.trans (f2.1 q)) (by decide), rfl, rfl⟩) (.inr ⟨fun q => absurd (hc.symm.trans (f3.1 q)) (by decide), rfl, rfl⟩)
            have HB := Lib.hid (And.intro hb hc)
            have HIP := Lib.hid hip
            clear MAIN hb hc f1 f2 f3 hip hik
            go_upto_region 9 with (first
              | (go_at_call 10; ((with_reducible refine (zA _ KQ).mono ?_); rintro e w4 ⟨rfl, K4⟩; clear zA KQ)))
            go_still_tail 5, (by kernel_rfl)
            change wpList _ _ _ _ _ w4.drew
            have K5 := (K4.quiet (Wider.refl w4).drew).rot.rot
            clear K4
            go_upto_region 10 with (first
              | (go_at_call 10; ((with_reducible refine (zB _ K5).mono ?_); rintro e w5 ⟨rfl, K6⟩; clear zB K5)))
            go_still_tail 5, (by kernel_rfl)
            change wpList _ _ _ _ _ w5.drew
            have K7 := (K6.quiet (Wider.refl w5).drew).rot.rot
            clear K6
            go_wp2_with (first
              | (go_at_call 10; ((with_reducible refine (zC _ K7).mono ?_); rintro e w6 ⟨rfl, K8⟩; clear zC K7; obtain ⟨R9, k9⟩ := K8.rot.rot.see))
              | (go_at_call 13; ((with_reducible refine (vlen_o k9 (n := 0) rfl).mono ?_); rintro e w7 ⟨rfl, g⟩; replace K8 := K8.quiet g; clear g)))
            go_ret
            exact ⟨rfl, K8.wider⟩
          | true =>
            obtain ⟨f1, f2, f3, hip, hik⟩ := FH.out
            rw [hb, hc] at hip
            obtain ⟨zA, zB, zC⟩ := MAIN 3 3 0 _ _ _ (.inr ⟨fun q => absurd (hip.symm.trans (f1.1 q)) (by decide), rfl, rfl⟩) (.inr ⟨fun q => absurd (hb.symm.trans (f2.1 q)) (by decide), rfl, rfl⟩) (.inl ⟨f3.2 hc, rfl, rfl⟩)
            have HB := Lib.hid (And.intro hb hc)
            have HIP := Lib.hid hip
            clear MAIN hb hc f1 f2 f3 hip hik
            go_upto_region 9 with (first
              | (go_at_call 10; ((with_reducible refine (zA _ KQ).mono ?_); rintro e w4 ⟨rfl, K4⟩; clear zA KQ)))
            go_still_tail 5, (by kernel_rfl)
            change wpList _ _ _ _ _ w4.drew
            have K5 := (K4.quiet (Wider.refl w4).drew).rot.rot
            clear K4
            go_upto_region 10 with (first
              | (go_at_call 10; ((with_reducible refine (zB _ K5).mono ?_); rintro e w5 ⟨rfl, K6⟩; clear zB K5)))
            go_still_tail 5, (by kernel_rfl)
            change wpList _ _ _ _ _ w5.drew
            have K7 := (K6.quiet (Wider.refl w5).drew).rot.rot
            clear K6
            go_wp2_with (first
              | (go_at_call 10; ((with_reducible refine (zC _ K7).mono ?_); rintro e w6 ⟨rfl, K8⟩; clear zC K7; obtain ⟨R9, k9⟩ := K8.rot.rot.see))
              | (go_at_call 13; ((with_reducible refine (vlen_o k9 (n := 0) rfl).mono ?_); rintro e w7 ⟨rfl, g⟩; replace K8 := K8.quiet g; clear g)))
            go_ret
            exact ⟨rfl, K8.wider⟩
        | true =>
          cases hc : inK [1] (low.extract 2 3) ⟨low.extract 2 3, high.extract 2 3, 0, 1⟩ with
          | false =>
            obtain ⟨f1, f2, f3, hip, hik⟩ := FH.out
            rw [hb, hc] at hip
            obtain ⟨zA, zB, zC⟩ := MAIN 3 0 3 _ _ _ (.inr ⟨fun q => absurd (hip.symm.trans (f1.1 q)) (by decide), rfl, rfl⟩) (.inl ⟨f2.2 hb, rfl, rfl⟩) (.inr ⟨fun q => absurd (hc.symm.trans (f3.1 q)) (by decide), rfl, rfl⟩)
            have HB := Lib.hid (And.intro hb hc)
            have HIP := Lib.hid hip
            clear MAIN hb hc f1 f2 f3 hip hik
            go_upto_region 9 with (first
              | (go_at_call 10; ((with_reducible refine (zA _ KQ).mono ?_); rintro e w4 ⟨rfl, K4⟩; clear zA KQ)))
            go_still_tail 5, (by kernel_rfl)
            change wpList _ _ _ _ _ w4.drew
            have K5 := (K4.quiet (Wider.refl w4).drew).rot.rot
            clear K4
            go_upto_region 10 with (first
              | (go_at_call 10; ((with_reducible refine (zB _ K5).mono ?_); rintro e w5 ⟨rfl, K6⟩; clear zB K5)))
            go_still_tail 5, (by kernel_rfl)
            change wpList _ _ _ _ _ w5.drew
            have K7 := (K6.quiet (Wider.refl w5).drew).rot.rot
            clear K6
            go_wp2_with (first
              | (go_at_call 10; ((with_reducible refine (zC _ K7).mono ?_); rintro e w6 ⟨rfl, K8⟩; clear zC K7; obtain ⟨R9, k9⟩ := K8.rot.rot.see))
              | (go_at_call 13; ((with_reducible refine (vlen_o k9 (n := 0) rfl).mono ?_); rintro e w7 ⟨rfl, g⟩; replace K8 := K8.quiet g; clear g)))
            go_ret
            exact ⟨rfl, K8.wider⟩
          | true =>
            obtain ⟨f1, f2, f3, hip, hik⟩ := FH.out
            rw [hb, hc] at hip
            obtain ⟨zA, zB, zC⟩ := MAIN 0 0 0 _ _ _ (.inl ⟨f1.2 hip, rfl, rfl⟩) (.inl ⟨f2.2 hb, rfl, rfl⟩) (.inl ⟨f3.2 hc, rfl, rfl⟩)
            have HB := Lib.hid (And.intro hb hc)
            have HIP := Lib.hid hip
            clear MAIN hb hc f1 f2 f3 hip hik
            go_upto_region 9 with (first
              | (go_at_call 10; ((with_reducible refine (zA _ KQ).mono ?_); rintro e w4 ⟨rfl, K4⟩; clear zA KQ)))
            go_still_tail 5, (by kernel_rfl)
            change wpList _ _ _ _ _ w4.drew
            have K5 := (K4.quiet (Wider.refl w4).drew).rot.rot
            clear K4
            go_upto_region 10 with (first
              | (go_at_call 10; ((with_reducible refine (zB _ K5).mono ?_); rintro e w5 ⟨rfl, K6⟩; clear zB K5)))
            go_still_tail 5, (by kernel_rfl)
            change wpList _ _ _ _ _ w5.drew
            have K7 := (K6.quiet (Wider.refl w5).drew).rot.rot
            clear K6
            go_upto_region 15 with (first
              | (go_at_call 10; ((with_reducible refine (zC _ K7).mono ?_); rintro e w6 ⟨rfl, K8⟩; clear zC K7)))
            obtain ⟨RA, kA0⟩ := K8.rot.rot.see
            obtain ⟨RB, kB0⟩ := K8.rot.see
            obtain ⟨RC, kC0⟩ := K8.see
            have kA : RangIs w w6 RA S1 [2, 1] [⟨low, high, 0, 1⟩] 1 := kA0
            have kB : RangIs w w6 RB S2 [2] [⟨low.extract 0 2, high.extract 0 2, 0, 1⟩] 1 := kB0
            have kC : RangIs w w6 RC S3 [1] [⟨low.extract 2 3, high.extract 2 3, 0, 1⟩] 1 := kC0
            have HW := Lib.hid K8.wider
            have hip := HIP.out
            have hik := FH.out.2.2.2.2
            have zl := fun (W : World) (g : Wider w6 W) => vfinds_o (kA.quiet g) (by decide) (key := low) (v := 1) (find_is [2, 1] low ⟨low, high, 0, 1⟩ hl hip)
            have zh := fun (W : World) (g : Wider w6 W) => vfinds_o (kA.quiet g) (by decide) (key := high) (v := 1) (find_is [2, 1] high ⟨low, high, 0, 1⟩ hh (inF_high ⟨low, high, 0, 1⟩ [2, 1] 0 hip))
            obtain ⟨vx, hvx⟩ : ∃ v, numR (findR [2, 1] key [⟨low, high, 0, 1⟩]) = v := ⟨_, rfl⟩
            obtain ⟨vy, hvy⟩ : ∃ v, numR (findR [2] (key.extract 0 2) [⟨low.extract 0 2, high.extract 0 2, 0, 1⟩]) = v := ⟨_, rfl⟩
            obtain ⟨vz, hvz⟩ : ∃ v, numR (findR [1] (key.extract 2 3) [⟨low.extract 2 3, high.extract 2 3, 0, 1⟩]) = v := ⟨_, rfl⟩
            clear hip kA0 kB0 kC0
            cases hy : inK [2] (key.extract 0 2) ⟨low.extract 0 2, high.extract 0 2, 0, 1⟩ with
            | false =>
              cases hz : inK [1] (key.extract 2 3) ⟨low.extract 2 3, high.extract 2 3, 0, 1⟩ with
              | false =>
                have zfA := fun (W : World) (g : Wider w6 W) => vfind_o (kA.quiet g) (by decide) (key := key) hvx (find_some [2, 1] key ⟨low, high, 0, 1⟩ hk (hik.trans (by rw [hy, hz])))
                have zfB := fun (W : World) (g : Wider w6 W) => vfind_o (kB.quiet g) (by decide) (key := key.extract 0 2) hvy (find_some [2] (key.extract 0 2) ⟨low.extract 0 2, high.extract 0 2, 0, 1⟩ (size_ext2 key hk) hy)
                have zfC := fun (W : World) (g : Wider w6 W) => vfind_o (kC.quiet g) (by decide) (key := key.extract 2 3) hvz (find_some [1] (key.extract 2 3) ⟨low.extract 2 3, high.extract 2 3, 0, 1⟩ (size_ext3 key hk) hz)
                have G := Wider.refl w6
                clear hvx hvy hvz hik hy hz HB HIP FH K8 kA kB kC
                go_wp2_with (first
                  | (go_at_call 11; ((with_reducible refine (zfA _ G).mono ?_); rintro e w7 ⟨rfl, g⟩; replace G := G.trans g; clear g zfA))
                  | (go_at_call 11; ((with_reducible refine (zfB _ G).mono ?_); rintro e w8 ⟨rfl, g⟩; replace G := G.trans g; clear g zfB))
                  | (go_at_call 11; ((with_reducible refine (zfC _ G).mono ?_); rintro e w9 ⟨rfl, g⟩; replace G := G.trans g; clear g zfC))
                  | (go_at_call 21; ((with_reducible refine (zl _ G).mono ?_); rintro e w10 ⟨rfl, g⟩; replace G := G.trans g; clear g zl))
                  | (go_at_call 21; ((with_reducible refine (zh _ G).mono ?_); rintro e w11 ⟨rfl, g⟩; replace G := G.trans g; clear g zh)))
                go_ret
                exact ⟨rfl, HW.out.trans G⟩
              | true =>
                have zfA := fun (W : World) (g : Wider w6 W) => vfind_o (kA.quiet g) (by decide) (key := key) hvx (find_some [2, 1] key ⟨low, high, 0, 1⟩ hk (hik.trans (by rw [hy, hz])))
                have zfB := fun (W : World) (g : Wider w6 W) => vfind_o (kB.quiet g) (by decide) (key := key.extract 0 2) hvy (find_some [2] (key.extract 0 2) ⟨low.extract 0 2, high.extract 0 2, 0, 1⟩ (size_ext2 key hk) hy)
                have zfC := fun (W : World) (g : Wider w6 W) => vfind_o (kC.quiet g) (by decide) (key := key.extract 2 3) hvz (find_some [1] (key.extract 2 3) ⟨low.extract 2 3, high.extract 2 3, 0, 1⟩ (size_ext3 key hk) hz)
                have G := Wider.refl w6
                clear hvx hvy hvz hik hy hz HB HIP FH K8 kA kB kC
                go_wp2_with (first
                  | (go_at_call 11; ((with_reducible refine (zfA _ G).mono ?_); rintro e w7 ⟨rfl, g⟩; replace G := G.trans g; clear g zfA))
                  | (go_at_call 11; ((with_reducible refine (zfB _ G).mono ?_); rintro e w8 ⟨rfl, g⟩; replace G := G.trans g; clear g zfB))
                  | (go_at_call 11; ((with_reducible refine (zfC _ G).mono ?_); rintro e w9 ⟨rfl, g⟩; replace G := G.trans g; clear g zfC))
                  | (go_at_call 21; ((with_reducible refine (zl _ G).mono ?_); rintro e w10 ⟨rfl, g⟩; replace G := G.trans g; clear g zl))
                  | (go_at_call 21; ((with_reducible refine (zh _ G).mono ?_); rintro e w11 ⟨rfl, g⟩; replace G := G.trans g; clear g zh)))
                go_ret
                exact ⟨rfl, HW.out.trans G⟩
            | true =>
              cases hz : inK [1] (key.extract 2 3) ⟨low.extract 2 3, high.extract 2 3, 0, 1⟩ with
              | false =>
                have zfA := fun (W : World) (g : Wider w6 W) => vfind_o (kA.quiet g) (by decide) (key := key) hvx (find_some [2, 1] key ⟨low, high, 0, 1⟩ hk (hik.trans (by rw [hy, hz])))
                have zfB := fun (W : World) (g : Wider w6 W) => vfind_o (kB.quiet g) (by decide) (key := key.extract 0 2) hvy (find_some [2] (key.extract 0 2) ⟨low.extract 0 2, high.extract 0 2, 0, 1⟩ (size_ext2 key hk) hy)
                have zfC := fun (W : World) (g : Wider w6 W) => vfind_o (kC.quiet g) (by decide) (key := key.extract 2 3) hvz (find_some [1] (key.extract 2 3) ⟨low.extract 2 3, high.extract 2 3, 0, 1⟩ (size_ext3 key hk) hz)
                have G := Wider.refl w6
                clear hvx hvy hvz hik hy hz HB HIP FH K8 kA kB kC
                go_wp2_with (first
                  | (go_at_call 11; ((with_reducible refine (zfA _ G).mono ?_); rintro e w7 ⟨rfl, g⟩; replace G := G.trans g; clear g zfA))
                  | (go_at_call 11; ((with_reducible refine (zfB _ G).mono ?_); rintro e w8 ⟨rfl, g⟩; replace G := G.trans g; clear g zfB))
                  | (go_at_call 11; ((with_reducible refine (zfC _ G).mono ?_); rintro e w9 ⟨rfl, g⟩; replace G := G.trans g; clear g zfC))
                  | (go_at_call 21; ((with_reducible refine (zl _ G).mono ?_); rintro e w10 ⟨rfl, g⟩; replace G := G.trans g; clear g zl))
                  | (go_at_call 21; ((with_reducible refine (zh _ G).mono ?_); rintro e w11 ⟨rfl, g⟩; replace G := G.trans g; clear g zh)))
                go_ret
                exact ⟨rfl, HW.out.trans G⟩
              | true =>
                have zfA := fun (W : World) (g : Wider w6 W) => vfind_o (kA.quiet g) (by decide) (key := key) hvx (find_some [2, 1] key ⟨low, high, 0, 1⟩ hk (hik.trans (by rw [hy, hz])))
                have zfB := fun (W : World) (g : Wider w6 W) => vfind_o (kB.quiet g) (by decide) (key := key.extract 0 2) hvy (find_some [2] (key.extract 0 2) ⟨low.extract 0 2, high.extract 0 2, 0, 1⟩ (size_ext2 key hk) hy)
                have zfC := fun (W : World) (g : Wider w6 W) => vfind_o (kC.quiet g) (by decide) (key := key.extract 2 3) hvz (find_some [1] (key.extract 2 3) ⟨low.extract 2 3, high.extract 2 3, 0, 1⟩ (size_ext3 key hk) hz)
                have G := Wider.refl w6
                clear hvx hvy hvz hik hy hz HB HIP FH K8 kA kB kC
                go_wp2_with (first
                  | (go_at_call 11; ((with_reducible refine (zfA _ G).mono ?_); rintro e w7 ⟨rfl, g⟩; replace G := G.trans g; clear g zfA))
                  | (go_at_call 11; ((with_reducible refine (zfB _ G).mono ?_); rintro e w8 ⟨rfl, g⟩; replace G := G.trans g; clear g zfB))
                  | (go_at_call 11; ((with_reducible refine (zfC _ G).mono ?_); rintro e w9 ⟨rfl, g⟩; replace G := G.trans g; clear g zfC))
                  | (go_at_call 21; ((with_reducible refine (zl _ G).mono ?_); rintro e w10 ⟨rfl, g⟩; replace G := G.trans g; clear g zl))
                  | (go_at_call 21; ((with_reducible refine (zh _ G).mono ?_); rintro e w11 ⟨rfl, g⟩; replace G := G.trans g; clear g zh)))
                go_ret
                exact ⟨rfl, HW.out.trans G⟩
      · have z1 : ((low.size : Int) != 3) = false := by rw [hl]; rfl
        have z2 : ((high.size : Int) != 3) = false := by rw [hh]; rfl
        have z3 : ((key.size : Int) != 3) = true := by simp; omega
        clear hl hh hk hl0 hh0 hk0
        go_enter Try.func6, Try.ntmps6
        go_wp2_with (first
          | (go_at_call 8; ((with_reducible refine (awake13_c _).mono ?_); rintro e wa ⟨rfl, g⟩; replace H := H.trans g; clear g)))
        go_ret
        exact ⟨rfl, H⟩
    · have z1 : ((low.size : Int) != 3) = false := by rw [hl]; rfl
      have z2 : ((high.size : Int) != 3) = true := by simp; omega
      clear hl hh hl0 hh0 hk0
      go_enter Try.func6, Try.ntmps6
      go_wp2_with (first
        | (go_at_call 8; ((with_reducible refine (awake13_c _).mono ?_); rintro e wa ⟨rfl, g⟩; replace H := H.trans g; clear g)))
      go_ret
      exact ⟨rfl, H⟩
  · have z1 : ((low.size : Int) != 3) = true := by simp; omega
    clear hl hl0 hh0 hk0
    go_enter Try.func6, Try.ntmps6
    go_wp2_with (first
      | (go_at_call 8; ((with_reducible refine (awake13_c _).mono ?_); rintro e wa ⟨rfl, g⟩; replace H := H.trans g; clear g)))
    go_ret
    exact ⟨rfl, H⟩
set_option maxRecDepth 100000 in
theorem rangParts_lifted (os : Os) (started : os.Started) (H : Type) (enc : TypeId × Value → H) :
    ReturnsInHanded {} Try.checked os 6 .any (Rows.rangPartsSpec.pre6 enc Try.prog Try.f6 Rows.rangPartsRow.domain false) (Rows.rangPartsSpec.post enc Try.prog Try.f6 false true false false) := by
  refine returnsInHanded_of_change (C := Try.checked) own started (by kernel_rfl) Try.func6
    (ChangeSpec.witness6 (enc := enc) (C := Try.checked) false ⟨#[], #[.string ⟨#[]⟩, .string ⟨#[]⟩, .string ⟨#[]⟩], []⟩ 8 (by kernel_rfl) (by kernel_rfl) (by kernel_rfl) (by kernel_rfl)) ?_
  intro W base args ds gs before hval0 hW hcnd _
  have hval : ∀ (j : Nat) t v, Try.f6.params[j]? = some t → args[j]? = some v → Value.okWide Try.prog W .any base t v := hval0
  have hW' := hW
  obtain ⟨p, q, hA0, hV, rfl, hfz, hnd⟩ := hW
  have hA : DataW.TrodAll enc Try.prog W 0 (fun _ => true) true Try.f6.params.toList args.toList ds p := hA0
  rw [Try.params6] at hA hval
  obtain ⟨v0, vs0, d0, ds0, p0, q0, hargs, rfl, rfl, h0, r0⟩ := trodAll_cons hA
  obtain ⟨v1, vs1, d1, ds1, p1, q1, rfl, rfl, rfl, h1, r1⟩ := trodAll_cons r0
  obtain ⟨v2, vs2, d2, ds2, p2, q2, rfl, rfl, rfl, h2, r2⟩ := trodAll_cons r1
  obtain ⟨rfl, rfl, rfl⟩ := trodAll_nil r2
  obtain rfl : args = #[v0, v1, v2] := by cases args; simp_all
  obtain ⟨rfl, rfl⟩ := trodVars_none hV
  obtain ⟨s0, rfl, rfl, rfl, w0⟩ := open_string Try.underlying9 (hval 0 9 v0 rfl rfl) h0
  obtain ⟨s1, rfl, rfl, rfl, w1⟩ := open_string Try.underlying9 (hval 1 9 v1 rfl rfl) h1
  obtain ⟨s2, rfl, rfl, rfl, w2⟩ := open_string Try.underlying9 (hval 2 9 v2 rfl rfl) h2
  clear hA0 hval0
  simp only [List.append_nil] at hW'
  refine (rangParts_walk s0 w0 s1 w1 s2 w2 W).mono fun e W' ⟨he, hg⟩ => ?_
  subst he
  exact ⟨_, rfl, post_of_none hW' (fun _ _ _ => (trodAll_cons_mk (shut_bool Try.underlying4 _) trodAll_mk0)) (fun sp => (trodAll_cons_mk (shut_string Try.underlying9 w0) (trodAll_cons_mk (shut_string Try.underlying9 w1) (trodAll_cons_mk (shut_string Try.underlying9 w2) trodAll_mk0)))) (fun _ => rfl)
    hg.1 (ok_one (by kernel_rfl) rfl (okWide_bool_mk Try.underlying4 _))⟩

theorem rangParts_holds : Rows.RangPartsSaid :=
  OpenClaim.holds_of_wide 6 Try.f6 rfl rfl rfl rfl rfl rfl rfl ⟨rfl, rfl, rfl, rfl, rfl⟩ rfl rfl rfl rfl rfl (by kernel_rfl) Try.func6 (by kernel_rfl)
    (of_decide_eq_true (by kernel_rfl)) (by unfold Func.isWrapper; first | (rw [if_pos (by decide +kernel)]; kernel_rfl) | (rw [if_neg (by decide +kernel)]; exact ⟨rfl, rfl⟩))
    (fun os started H enc _ => rangParts_lifted os started H enc)

#print axioms rangParts_holds

end Go.Proofs.Ytpdhahghpdckeaa
