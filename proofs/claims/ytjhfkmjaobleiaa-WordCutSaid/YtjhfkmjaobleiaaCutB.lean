/- The walk of WordCut, case B. -/
import Derived.Test.YtjhfkmjaobleiaaCutH
namespace Go.Proofs.Ytjhfkmjaobleiaa
set_option linter.unusedVariables false
open Go.ChangeShapes Go.WideShapes Go.ChangeAt Go.RowKit Go.Joins
open Go.ChangeMaps (open_string shut_string)

set_option maxRecDepth 100000 in
set_option maxHeartbeats 80000000 in
theorem wordCut_B (a0 b0 : Int) (x0 : BitVec 128) (hx0 : IsW a0 b0 x0) (a1 b1 : Int) (x1 : BitVec 128) (hx1 : IsW a1 b1 x1) (n1 : Int) (n1l : -9223372036854775808 ≤ n1) (n1h : n1 ≤ 9223372036854775807) (n2 : Int) (n2l : -9223372036854775808 ≤ n2) (n2h : n2 ≤ 9223372036854775807) (N : Nat) (hN : wrap64 ((IntKind.u64.wrap n1).tmod 131) = (N : Int)) (hN1 : (N : Int) < 131) (M : Nat) (hM : wrap64 ((IntKind.u64.wrap n2).tmod 131) = (M : Int)) (hM1 : (M : Int) < 131) (xh xl : Int) (hx : IsW xh xl (x0 &&& mask (N : Int).toNat)) (z2 : Int) (hz2 : (sizeW x0 : Int) = z2) (HQ : Hid (decide (z2 ≤ (N : Int)) = false ∧ (xh == a0) = false)) (w : World) :
    Calls Try.prog 12 #[.agg #[.int .u64 a0, .int .u64 b0], .agg #[.int .u64 a1, .int .u64 b1], .int .i64 n1, .int .i64 n2] w fun e w' => e = .returned (.bool true) ∧ Grown w w' := by
  have eN : ((N : Int)).toNat = N := Int.toNat_natCast N
  have eM : ((M : Int)).toNat = M := Int.toNat_natCast M
  have emin : (min (N : Int) (M : Int)).toNat = min N M := by omega
  obtain ⟨yh, yl, hy⟩ := isW_ex (x1 &&& mask (N : Int).toNat)
  obtain ⟨mh, ml, hm⟩ := isW_ex (mask (N : Int).toNat)
  have hxx : IsW xh xl ((x0 &&& mask (N : Int).toNat) &&& mask (N : Int).toNat) := by rw [cut_self]; exact hx
  obtain ⟨dh, dl, hd⟩ := isW_ex (x0 &&& mask (M : Int).toNat)
  obtain ⟨eh, el, he⟩ := isW_ex ((x0 &&& mask (M : Int).toNat) &&& mask (N : Int).toNat)
  have he' : IsW eh el (x0 &&& mask (min (N : Int) (M : Int)).toNat) := by rw [emin, ← cut_cut, ← eN, ← eM]; exact he
  obtain ⟨c, hc⟩ : ∃ c : Int, cmpW (x0 &&& mask (N : Int).toNat) (mask (N : Int).toNat) = c := ⟨_, rfl⟩
  have hc0 : c ≤ 0 := by rw [← hc]; exact cmpW_le (cut_le _ _)
  obtain ⟨z, hz⟩ : ∃ z : Int, (sizeW (x0 &&& mask (N : Int).toNat) : Int) = z := ⟨_, rfl⟩
  have hz0 : z ≤ (N : Int) := by
    rw [← hz]
    have q : sizeW (x0 &&& mask (N : Int).toNat) ≤ N := (sizeW_iff _ N).2 (by rw [cut_toNat, eN]; exact Nat.mod_lt _ (Nat.two_pow_pos _))
    omega
  obtain ⟨s1h, s1l, hs1⟩ := isW_ex ((x0 &&& mask (N : Int).toNat) + (x1 &&& mask (N : Int).toNat))
  obtain ⟨s2h, s2l, hs2⟩ := isW_ex (x0 + x1)
  obtain ⟨s3h, s3l, hs3⟩ := isW_ex ((x0 + x1) &&& mask (N : Int).toNat)
  have hs3' : IsW s3h s3l (((x0 &&& mask (N : Int).toNat) + (x1 &&& mask (N : Int).toNat)) &&& mask (N : Int).toNat) := by rw [cut_add]; exact hs3
  obtain ⟨t1h, t1l, ht1⟩ := isW_ex ((x0 &&& mask (N : Int).toNat) - (x1 &&& mask (N : Int).toNat))
  obtain ⟨t2h, t2l, ht2⟩ := isW_ex (x0 - x1)
  obtain ⟨t3h, t3l, ht3⟩ := isW_ex ((x0 - x1) &&& mask (N : Int).toNat)
  have ht3' : IsW t3h t3l (((x0 &&& mask (N : Int).toNat) - (x1 &&& mask (N : Int).toNat)) &&& mask (N : Int).toNat) := by rw [cut_sub]; exact ht3
  obtain ⟨u2h, u2l, hu2⟩ := isW_ex (x0 ^^^ x1)
  obtain ⟨u3h, u3l, hu3⟩ := isW_ex ((x0 ^^^ x1) &&& mask (N : Int).toNat)
  have hu3' : IsW u3h u3l ((x0 &&& mask (N : Int).toNat) ^^^ (x1 &&& mask (N : Int).toNat)) := by rw [← cut_xor]; exact hu3
  obtain ⟨v2h, v2l, hv2⟩ := isW_ex (x0 ||| x1)
  obtain ⟨v3h, v3l, hv3⟩ := isW_ex ((x0 ||| x1) &&& mask (N : Int).toNat)
  have hv3' : IsW v3h v3l ((x0 &&& mask (N : Int).toNat) ||| (x1 &&& mask (N : Int).toNat)) := by rw [← cut_or]; exact hv3
  obtain ⟨o2h, o2l, ho2⟩ := isW_ex (x0 &&& x1)
  obtain ⟨o3h, o3l, ho3⟩ := isW_ex ((x0 &&& x1) &&& mask (N : Int).toNat)
  have ho3' : IsW o3h o3l ((x0 &&& mask (N : Int).toNat) &&& (x1 &&& mask (N : Int).toNat)) := by rw [← cut_and]; exact ho3
  obtain ⟨i1h, i1l, hi1⟩ := isW_ex (~~~ (x0 &&& mask (N : Int).toNat))
  obtain ⟨i2h, i2l, hi2⟩ := isW_ex (~~~ x0)
  obtain ⟨i3h, i3l, hi3⟩ := isW_ex (~~~ x0 &&& mask (N : Int).toNat)
  have hi3' : IsW i3h i3l (~~~ (x0 &&& mask (N : Int).toNat) &&& mask (N : Int).toNat) := by rw [cut_not]; exact hi3
  have hcF : decide (0 < c) = false := by simpa using hc0
  have hzF : decide ((N : Int) < z) = false := by simpa using hz0
  clear hc0 hz0
  have lN : -9223372036854775808 ≤ (N : Int) := by omega
  have uN : (N : Int) ≤ 9223372036854775807 := by omega
  have lM : -9223372036854775808 ≤ (M : Int) := by omega
  have uM : (M : Int) ≤ 9223372036854775807 := by omega
  have lS : -9223372036854775808 ≤ min (N : Int) (M : Int) := by omega
  have uS : min (N : Int) (M : Int) ≤ 9223372036854775807 := by omega
  have LN := Lib.hid lN; have UN := Lib.hid uN; have LM := Lib.hid lM; have UM := Lib.hid uM; have LS := Lib.hid lS; have US := Lib.hid uS
  have HC := Lib.hid hc; have HZ := Lib.hid hz; have HZ2 := Lib.hid hz2
  clear hc hz hz2 eN eM emin lN uN lM uM lS uS
  go_enter Try.func12, Try.ntmps12
  go_upto_region 3 with fail
  try simp only [hN, hM]
  clear hN hM
  have k0 : ((w.alloc (.cells #[.int .u64 a0, .int .u64 b0] 24)).alloc (.cells #[.int .u64 a1, .int .u64 b1] 24)).cell? ⟨w.heap.size, 0, none⟩ = some (.int .u64 a0) := by simp [go_sem]
  have k1 : ((w.alloc (.cells #[.int .u64 a0, .int .u64 b0] 24)).alloc (.cells #[.int .u64 a1, .int .u64 b1] 24)).cell? ⟨w.heap.size, 1, none⟩ = some (.int .u64 b0) := by simp [go_sem]
  have k2 : ((w.alloc (.cells #[.int .u64 a0, .int .u64 b0] 24)).alloc (.cells #[.int .u64 a1, .int .u64 b1] 24)).cell? ⟨w.heap.size + 1, 0, none⟩ = some (.int .u64 a1) := by simp [go_sem]
  have k3 : ((w.alloc (.cells #[.int .u64 a0, .int .u64 b0] 24)).alloc (.cells #[.int .u64 a1, .int .u64 b1] 24)).cell? ⟨w.heap.size + 1, 1, none⟩ = some (.int .u64 b1) := by simp [go_sem]
  have G : Hid (Grown w ((w.alloc (.cells #[.int .u64 a0, .int .u64 b0] 24)).alloc (.cells #[.int .u64 a1, .int .u64 b1] 24))) := (((Grown.refl _).alloc _ _).alloc _ _)
  generalize ((w.alloc (.cells #[.int .u64 a0, .int .u64 b0] 24)).alloc (.cells #[.int .u64 a1, .int .u64 b1] 24)) = W at *
  go_cut [11, 12] (fun s7 s8 wc => ∃ A B : Nat, s7 = .pointer (some ⟨A, 0, none⟩) ∧ s8 = .pointer (some ⟨B, 0, none⟩) ∧ wc.cell? ⟨A, 0, none⟩ = some (.int .u64 xh) ∧ wc.cell? ⟨A, 1, none⟩ = some (.int .u64 xl) ∧ wc.cell? ⟨B, 0, none⟩ = some (.int .u64 yh) ∧ wc.cell? ⟨B, 1, none⟩ = some (.int .u64 yl) ∧ Hid (Grown W wc))
  case first =>
    as_aux_lemma =>
    go_region_held3 (fun w' => w'.cell? ⟨w.heap.size, 0, none⟩ = some (.int .u64 a0) ∧ w'.cell? ⟨w.heap.size, 1, none⟩ = some (.int .u64 b0) ∧ w'.cell? ⟨w.heap.size + 1, 0, none⟩ = some (.int .u64 a1) ∧ w'.cell? ⟨w.heap.size + 1, 1, none⟩ = some (.int .u64 b1) ∧ Hid (Grown W w')) (first | assumption | (refine mkS k0 k1 k2 k3 ?_; repeat (first | assumption | (with_reducible exact Grown.refl _) | (with_reducible apply Grown.drew) | (with_reducible apply Grown.alloc) | ((with_reducible apply Grown.setCell); rotate_left; (dsimp only; omega)))))
      (first
        | (go_at_call 23; ((with_reducible refine (cut_c x0 (N : Int) LN.out UN.out hx0 hx _).mono ?_); rintro e w' ⟨rfl, g'⟩; have GW := sGrown g' (by assumption); have hsW := GW.2.2; have hc := gcells g'; have hf := gfrozen g'; have hzz := g'.2.2; (try simp only [World.size_alloc, World.size_drew] at hzz); (first | (obtain ⟨hzA, hzB⟩ := le_lt2 hzz) | (have hzA := le_lt1 hzz) | skip); (try (have hq1 : W.heap.size < w'.heap.size := by omega)); (try (have hq2 : W.heap.size + 1 < w'.heap.size := by omega))))
        | (go_at_call 23; ((with_reducible refine (cut_c x1 (N : Int) LN.out UN.out hx1 hy _).mono ?_); rintro e w' ⟨rfl, g'⟩; have GW := sGrown g' (by assumption); have hsW := GW.2.2; have hc := gcells g'; have hf := gfrozen g'; have hzz := g'.2.2; (try simp only [World.size_alloc] at hzz); (first | (obtain ⟨hzA, hzB⟩ := le_lt2 hzz) | (have hzA := le_lt1 hzz) | skip); (try (have hq1 : W.heap.size < w'.heap.size := by omega)); (try (have hq2 : W.heap.size + 1 < w'.heap.size := by omega)))))
    all_goals (go_wp2_with fail; go_meet; refine ⟨_, _, rfl, rfl, ?_, ?_, ?_, ?_, ?_⟩)
    all_goals first
      | ((with_reducible have h := ‹_ ∧ _ ∧ _ ∧ _ ∧ Hid (Grown W _)›); (with_reducible exact h.2.2.2.2))
      | ((with_reducible refine World.cell?_setCell_same' _ _ _ ?_); (simp [go_sem, *]; done))
      | ((simp [go_sem, *]); (with_reducible refine World.cell?_setCell_same' _ _ _ ?_); (simp [go_sem, *]; done))
      | (simp [go_sem, *]; done)
  case rest =>
    obtain ⟨A, B, rfl, rfl, m0, m1, o0, o1, HW⟩ := hcut
    replace k0 := gkeep HW.out k0
    replace k1 := gkeep HW.out k1
    replace k2 := gkeep HW.out k2
    replace k3 := gkeep HW.out k3
    replace G := ghid G HW.out
    clear HW
    go_upto_region 4 with fail
    go_cut [61] (fun s61 wc => s61 = .bool false ∧ Hid (Grown w wc) ∧ wc.cell? ⟨w.heap.size, 0, none⟩ = some (.int .u64 a0) ∧ wc.cell? ⟨w.heap.size, 1, none⟩ = some (.int .u64 b0) ∧ wc.cell? ⟨w.heap.size + 1, 0, none⟩ = some (.int .u64 a1) ∧ wc.cell? ⟨w.heap.size + 1, 1, none⟩ = some (.int .u64 b1) ∧ wc.cell? ⟨A, 0, none⟩ = some (.int .u64 xh) ∧ wc.cell? ⟨A, 1, none⟩ = some (.int .u64 xl) ∧ wc.cell? ⟨B, 0, none⟩ = some (.int .u64 yh) ∧ wc.cell? ⟨B, 1, none⟩ = some (.int .u64 yl))
    case first =>
      as_aux_lemma =>
      go_region_held3 (fun w' => w'.cell? ⟨w.heap.size, 0, none⟩ = some (.int .u64 a0) ∧ w'.cell? ⟨w.heap.size, 1, none⟩ = some (.int .u64 b0) ∧ w'.cell? ⟨w.heap.size + 1, 0, none⟩ = some (.int .u64 a1) ∧ w'.cell? ⟨w.heap.size + 1, 1, none⟩ = some (.int .u64 b1) ∧ w'.cell? ⟨A, 0, none⟩ = some (.int .u64 xh) ∧ w'.cell? ⟨A, 1, none⟩ = some (.int .u64 xl) ∧ w'.cell? ⟨B, 0, none⟩ = some (.int .u64 yh) ∧ w'.cell? ⟨B, 1, none⟩ = some (.int .u64 yl) ∧ Hid (Grown w w')) (first | assumption | exact ⟨k0, k1, k2, k3, m0, m1, o0, o1, G⟩ | exact keep9 (by assumption) (by assumption))
        (first
          | (go_at_call 17; ((with_reducible refine (awake_c _).mono ?_); rintro e w' ⟨rfl, g'⟩))
          | (go_at_call 20; ((with_reducible refine (mask_c (N : Int) LN.out UN.out hm _).mono ?_); rintro e w' ⟨rfl, g'⟩))
          | (go_at_call 26; ((with_reducible refine (compare_r (x0 &&& mask (N : Int).toNat) (mask (N : Int).toNat) hx hm HC.out _).mono ?_); rintro e w' ⟨rfl, g'⟩))
          | (go_at_call 21; ((with_reducible refine (size_r (x0 &&& mask (N : Int).toNat) hx HZ.out _).mono ?_); rintro e w' ⟨rfl, g'⟩))
          | (go_at_call 23; ((with_reducible refine (cut_c (x0 &&& mask (N : Int).toNat) (N : Int) LN.out UN.out  hx hxx _).mono ?_); rintro e w' ⟨rfl, g'⟩))
          | (go_at_call 23; ((with_reducible refine (cut_c x0 (M : Int) LM.out UM.out hx0 hd _).mono ?_); rintro e w' ⟨rfl, g'⟩))
          | (go_at_call 23; ((with_reducible refine (cut_c (x0 &&& mask (M : Int).toNat) (N : Int) LN.out UN.out  hd he _).mono ?_); rintro e w' ⟨rfl, g'⟩))
          | (go_at_call 23; ((with_reducible refine (cut_c x0 (min (N : Int) (M : Int)) LS.out US.out hx0 he' _).mono ?_); rintro e w' ⟨rfl, g'⟩)))
      all_goals (go_wp2_with fail; go_meet; refine ⟨rfl, ?_⟩; have h := ‹_ ∧ _ ∧ _ ∧ _ ∧ _ ∧ _ ∧ _ ∧ _ ∧ Hid (Grown w _)›; exact ⟨h.2.2.2.2.2.2.2.2, h.1, h.2.1, h.2.2.1, h.2.2.2.1, h.2.2.2.2.1, h.2.2.2.2.2.1, h.2.2.2.2.2.2.1, h.2.2.2.2.2.2.2.1⟩)
    case rest =>
      as_aux_lemma =>
      clear k0 k1 k2 k3 m0 m1 o0 o1 G
      obtain ⟨rfl, G, k0, k1, k2, k3, m0, m1, o0, o1⟩ := hcut
      go_wp2_with fail
      simp only [List.append]
      obtain ⟨q1, q2⟩ := HQ.out
      all_goals
        go_region_held3 (fun w' => w'.cell? ⟨w.heap.size, 0, none⟩ = some (.int .u64 a0) ∧ w'.cell? ⟨w.heap.size, 1, none⟩ = some (.int .u64 b0) ∧ w'.cell? ⟨w.heap.size + 1, 0, none⟩ = some (.int .u64 a1) ∧ w'.cell? ⟨w.heap.size + 1, 1, none⟩ = some (.int .u64 b1) ∧ w'.cell? ⟨A, 0, none⟩ = some (.int .u64 xh) ∧ w'.cell? ⟨A, 1, none⟩ = some (.int .u64 xl) ∧ w'.cell? ⟨B, 0, none⟩ = some (.int .u64 yh) ∧ w'.cell? ⟨B, 1, none⟩ = some (.int .u64 yl) ∧ Hid (Grown w w')) (first | assumption | exact ⟨k0, k1, k2, k3, m0, m1, o0, o1, G⟩ | exact keep9 (by assumption) (by assumption))
          (first
            | (go_at_call 18; ((with_reducible refine (add_c (x0 &&& mask (N : Int).toNat) (x1 &&& mask (N : Int).toNat) hx hy hs1 _).mono ?_); rintro e w' ⟨rfl, g'⟩))
            | (go_at_call 23; ((with_reducible refine (cut_c ((x0 &&& mask (N : Int).toNat) + (x1 &&& mask (N : Int).toNat)) (N : Int) LN.out UN.out  hs1 hs3' _).mono ?_); rintro e w' ⟨rfl, g'⟩))
            | (go_at_call 18; ((with_reducible refine (add_c x0 x1 hx0 hx1 hs2 _).mono ?_); rintro e w' ⟨rfl, g'⟩))
            | (go_at_call 23; ((with_reducible refine (cut_c (x0 + x1) (N : Int) LN.out UN.out  hs2 hs3 _).mono ?_); rintro e w' ⟨rfl, g'⟩))
            | (go_at_call 19; ((with_reducible refine (sub_c (x0 &&& mask (N : Int).toNat) (x1 &&& mask (N : Int).toNat) hx hy ht1 _).mono ?_); rintro e w' ⟨rfl, g'⟩))
            | (go_at_call 23; ((with_reducible refine (cut_c ((x0 &&& mask (N : Int).toNat) - (x1 &&& mask (N : Int).toNat)) (N : Int) LN.out UN.out  ht1 ht3' _).mono ?_); rintro e w' ⟨rfl, g'⟩))
            | (go_at_call 19; ((with_reducible refine (sub_c x0 x1 hx0 hx1 ht2 _).mono ?_); rintro e w' ⟨rfl, g'⟩))
            | (go_at_call 23; ((with_reducible refine (cut_c (x0 - x1) (N : Int) LN.out UN.out  ht2 ht3 _).mono ?_); rintro e w' ⟨rfl, g'⟩))
            | (go_at_call 34; ((with_reducible refine (xor_c x0 x1 hx0 hx1 hu2 _).mono ?_); rintro e w' ⟨rfl, g'⟩))
            | (go_at_call 23; ((with_reducible refine (cut_c (x0 ^^^ x1) (N : Int) LN.out UN.out  hu2 hu3 _).mono ?_); rintro e w' ⟨rfl, g'⟩))
            | (go_at_call 34; ((with_reducible refine (xor_c (x0 &&& mask (N : Int).toNat) (x1 &&& mask (N : Int).toNat) hx hy hu3' _).mono ?_); rintro e w' ⟨rfl, g'⟩))
            | (go_at_call 32; ((with_reducible refine (or_c x0 x1 hx0 hx1 hv2 _).mono ?_); rintro e w' ⟨rfl, g'⟩))
            | (go_at_call 23; ((with_reducible refine (cut_c (x0 ||| x1) (N : Int) LN.out UN.out  hv2 hv3 _).mono ?_); rintro e w' ⟨rfl, g'⟩))
            | (go_at_call 32; ((with_reducible refine (or_c (x0 &&& mask (N : Int).toNat) (x1 &&& mask (N : Int).toNat) hx hy hv3' _).mono ?_); rintro e w' ⟨rfl, g'⟩))
            | (go_at_call 30; ((with_reducible refine (and_c x0 x1 hx0 hx1 ho2 _).mono ?_); rintro e w' ⟨rfl, g'⟩))
            | (go_at_call 23; ((with_reducible refine (cut_c (x0 &&& x1) (N : Int) LN.out UN.out  ho2 ho3 _).mono ?_); rintro e w' ⟨rfl, g'⟩))
            | (go_at_call 30; ((with_reducible refine (and_c (x0 &&& mask (N : Int).toNat) (x1 &&& mask (N : Int).toNat) hx hy ho3' _).mono ?_); rintro e w' ⟨rfl, g'⟩))
            | (go_at_call 14; ((with_reducible refine (not_c (x0 &&& mask (N : Int).toNat) hx hi1 _).mono ?_); rintro e w' ⟨rfl, g'⟩))
            | (go_at_call 23; ((with_reducible refine (cut_c (~~~ (x0 &&& mask (N : Int).toNat)) (N : Int) LN.out UN.out  hi1 hi3' _).mono ?_); rintro e w' ⟨rfl, g'⟩))
            | (go_at_call 14; ((with_reducible refine (not_c x0 hx0 hi2 _).mono ?_); rintro e w' ⟨rfl, g'⟩))
            | (go_at_call 23; ((with_reducible refine (cut_c (~~~ x0) (N : Int) LN.out UN.out  hi2 hi3 _).mono ?_); rintro e w' ⟨rfl, g'⟩))
            | (go_at_call 21; ((with_reducible refine (size_r x0 hx0 HZ2.out _).mono ?_); rintro e w' ⟨rfl, g'⟩)))
        have HG : Hid (Grown w w') := by
          have h := ‹_ ∧ _ ∧ _ ∧ _ ∧ _ ∧ _ ∧ _ ∧ _ ∧ Hid (Grown w w')›
          exact h.2.2.2.2.2.2.2.2
        go_wp2
        go_ret
        exact ⟨rfl, HG.out⟩


end Go.Proofs.Ytjhfkmjaobleiaa
