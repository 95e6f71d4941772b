/- The law ObjUnlike: unlike objects of one kind have unlike bytes; bytes with a further attribute behind them are of no object. No condition. -/
import Derived.Test.YtlldgmdgogkdiaaGreatOLawM
import Derived.SizedLaws
namespace Go.Proofs.YtlldgmdgogkdiaaGreat
set_option linter.unusedVariables false
set_option maxRecDepth 20000
open Go.ChangeShapes Go.WideShapes Go.ChangeAt Go.RowKit Go.Joins
open Go.ChangeMaps (open_string shut_string)

set_option maxHeartbeats 16000000 in
theorem objUnlike_walk (w : World) (x : MsgN) (o : x.Ok w) (f : x.Few) (x2 : MsgN) (o2 : x2.Ok w) (f2 : x2.Few) (n : Int) (n0 : 0 ≤ n) (n1 : n ≤ 255) (s : ByteArray) (hms : s.size ≤ maxLen) :
    Calls Tryz.prog 8 #[.agg x.cells.toArray, .agg x2.cells.toArray, .int .u8 n, .string s] w fun e w' => e = .returned (.bool true) ∧ Wider w w' := by
  unfold maxLen at hms
  obtain ⟨b, hL, hS⟩ := MsgN.large o f
  obtain ⟨b2, hL2, hS2⟩ := MsgN.large o2 f2
  obtain ⟨M, hM⟩ : ∃ M, x.cells.toArray = M := ⟨_, rfl⟩
  obtain ⟨N, hN⟩ : ∃ N, x2.cells.toArray = N := ⟨_, rfl⟩
  have sM : M.size = 52 := by rw [← hM]; rfl
  have sN : N.size = 52 := by rw [← hN]; rfl
  rw [hM] at hL hS ⊢
  rw [hN] at hL2 hS2 ⊢
  clear hM o f hN o2 f2
  have G0 := ((Wider.refl w).alloc (.cells M 46)).alloc (.cells N 46)
  have hz : (w.alloc (.cells M 46)).heap.size = w.heap.size + 1 := by simp
  have hX := wide_blk (heap_alloc_new w (.cells M 46)) ((Wider.refl _).alloc (.cells N 46))
  have hY := heap_alloc_new (w.alloc (.cells M 46)) (.cells N 46)
  rw [hz] at hY
  clear hz
  cases b with
  | true =>
    go_enter Tryz.func8, Tryz.ntmps8
    go_upto_region 1 with (fail)
    obtain ⟨w1, hw1⟩ : ∃ w1, (w.alloc (.cells M 46)).alloc (.cells N 46) = w1 := ⟨_, rfl⟩
    rw [hw1] at hX hY G0 ⊢
    have H : Wider w1 w1 := Wider.refl w1
    have G1 : Hid (Wider w w1) := G0
    clear G0 hw1
    refine wp_region_plain H ?_
    repeat (first
      | (go_big_quiet_want; (refine quiet_row 46 (.tmp 4) rfl w.heap.size rfl (C := M) _ (after_blk hX) Tryz.underlying46 rfl (by rw [sM]; kernel_rfl) ?_); go_big_quiet_on; simp only [Act.put, List.setIfInBounds_toArray, List.set_cons_succ, List.set_cons_zero])
      | (go_big_quiet_want; (refine quiet_row 46 (.tmp 5) rfl (w.heap.size + 1) rfl (C := N) _ (after_blk hY) Tryz.underlying46 rfl (by rw [sN]; kernel_rfl) ?_); go_big_quiet_on; simp only [Act.put, List.setIfInBounds_toArray, List.set_cons_succ, List.set_cons_zero])
      | (go_big_quiet_step (first | (fail) | (go_at_call 9; with_reducible exact quiet_after (hL _)) | (go_at_call 9; with_reducible exact quiet_after (hL2 _)) | (go_at_call 10; exact quiet_after (awake8_c _))); (try simp only [Bool.false_eq_true, ↓reduceIte])))
    refine wpQuiet_nil ?_
    rintro _ ⟨y, rfl⟩
    replace H := y.h
    go_wp2_with (first
      | (go_at_call 10; (with_reducible refine (awake8_c _).mono ?_); rintro e wN ⟨rfl, gN⟩; replace H := H.trans gN; clear gN))
    go_ret
    exact ⟨rfl, G1.out.trans H⟩
  | false =>
    obtain ⟨V, RX⟩ := hS rfl
    replace RX := RX.on G0
    cases b2 with
    | true =>
      go_enter Tryz.func8, Tryz.ntmps8
      go_upto_region 1 with (fail)
      obtain ⟨w1, hw1⟩ : ∃ w1, (w.alloc (.cells M 46)).alloc (.cells N 46) = w1 := ⟨_, rfl⟩
      rw [hw1] at hX hY G0 ⊢
      have H : Wider w1 w1 := Wider.refl w1
      have G1 : Hid (Wider w w1) := G0
      clear G0 hw1
      refine wp_region_plain H ?_
      repeat (first
        | (go_big_quiet_want; (refine quiet_row 46 (.tmp 4) rfl w.heap.size rfl (C := M) _ (after_blk hX) Tryz.underlying46 rfl (by rw [sM]; kernel_rfl) ?_); go_big_quiet_on; simp only [Act.put, List.setIfInBounds_toArray, List.set_cons_succ, List.set_cons_zero])
        | (go_big_quiet_want; (refine quiet_row 46 (.tmp 5) rfl (w.heap.size + 1) rfl (C := N) _ (after_blk hY) Tryz.underlying46 rfl (by rw [sN]; kernel_rfl) ?_); go_big_quiet_on; simp only [Act.put, List.setIfInBounds_toArray, List.set_cons_succ, List.set_cons_zero])
        | (go_big_quiet_step (first | (fail) | (go_at_call 9; with_reducible exact quiet_after (hL _)) | (go_at_call 9; with_reducible exact quiet_after (hL2 _)) | (go_at_call 10; exact quiet_after (awake8_c _))); (try simp only [Bool.false_eq_true, ↓reduceIte])))
      refine wpQuiet_nil ?_
      rintro _ ⟨y, rfl⟩
      replace H := y.h
      go_wp2_with (first
        | (go_at_call 10; (with_reducible refine (awake8_c _).mono ?_); rintro e wN ⟨rfl, gN⟩; replace H := H.trans gN; clear gN))
      go_ret
      exact ⟨rfl, G1.out.trans H⟩
    | false =>
      obtain ⟨U, RY⟩ := hS2 rfl
      replace RY := RY.on G0
      by_cases h0 : 1000 < s.size
      · have c0 : decide ((1000 : Int) < (s.size : Int)) = true := decide_eq_true (by omega)
        have c1 : decide (1000 < s.size) = true := decide_eq_true h0
        go_enter Tryz.func8, Tryz.ntmps8
        go_upto_region 1 with (fail)
        obtain ⟨w1, hw1⟩ : ∃ w1, (w.alloc (.cells M 46)).alloc (.cells N 46) = w1 := ⟨_, rfl⟩
        rw [hw1] at hX hY G0 ⊢
        have H : Wider w1 w1 := Wider.refl w1
        have G1 : Hid (Wider w w1) := G0
        clear G0 hw1
        refine wp_region_plain H ?_
        repeat (first
          | (go_big_quiet_want; (refine quiet_row 46 (.tmp 4) rfl w.heap.size rfl (C := M) _ (after_blk hX) Tryz.underlying46 rfl (by rw [sM]; kernel_rfl) ?_); go_big_quiet_on; simp only [Act.put, List.setIfInBounds_toArray, List.set_cons_succ, List.set_cons_zero])
          | (go_big_quiet_want; (refine quiet_row 46 (.tmp 5) rfl (w.heap.size + 1) rfl (C := N) _ (after_blk hY) Tryz.underlying46 rfl (by rw [sN]; kernel_rfl) ?_); go_big_quiet_on; simp only [Act.put, List.setIfInBounds_toArray, List.set_cons_succ, List.set_cons_zero])
          | (go_big_quiet_step (first | (fail) | (go_at_call 9; with_reducible exact quiet_after (hL _)) | (go_at_call 9; with_reducible exact quiet_after (hL2 _)) | (go_at_call 10; exact quiet_after (awake8_c _))); (try simp only [Bool.false_eq_true, ↓reduceIte])))
        refine wpQuiet_nil ?_
        rintro _ ⟨y, rfl⟩
        replace H := y.h
        go_wp2_with (first
          | (go_at_call 10; (with_reducible refine (awake8_c _).mono ?_); rintro e wN ⟨rfl, gN⟩; replace H := H.trans gN; clear gN))
        go_ret
        exact ⟨rfl, G1.out.trans H⟩
      · have c0 : decide ((1000 : Int) < (s.size : Int)) = false := decide_eq_false (by omega)
        have c1 : decide (1000 < s.size) = false := decide_eq_false h0
        have hs5 : Hid (s.size ≤ 1000) := by show _ ≤ _; omega
        clear hms h0 hS hS2
        go_enter Tryz.func8, Tryz.ntmps8
        go_upto_region 1 with (fail)
        obtain ⟨w1, hw1⟩ : ∃ w1, (w.alloc (.cells M 46)).alloc (.cells N 46) = w1 := ⟨_, rfl⟩
        rw [hw1] at hX hY G0 RX RY ⊢
        have H : Wider w1 w1 := Wider.refl w1
        have G1 : Hid (Wider w w1) := G0
        clear G0 hw1
        refine wp_region_plain H ?_
        repeat (first
          | (go_big_quiet_want; (refine quiet_row 46 (.tmp 4) rfl w.heap.size rfl (C := M) _ (after_blk hX) Tryz.underlying46 rfl (by rw [sM]; kernel_rfl) ?_); go_big_quiet_on; simp only [Act.put, List.setIfInBounds_toArray, List.set_cons_succ, List.set_cons_zero])
          | (go_big_quiet_want; (refine quiet_row 46 (.tmp 5) rfl (w.heap.size + 1) rfl (C := N) _ (after_blk hY) Tryz.underlying46 rfl (by rw [sN]; kernel_rfl) ?_); go_big_quiet_on; simp only [Act.put, List.setIfInBounds_toArray, List.set_cons_succ, List.set_cons_zero])
          | (go_big_quiet_step (first | (fail) | (go_at_call 9; with_reducible exact quiet_after (hL _)) | (go_at_call 9; with_reducible exact quiet_after (hL2 _)) | (go_at_call 10; exact quiet_after (awake8_c _))); (try simp only [Bool.false_eq_true, ↓reduceIte])))
        refine wpQuiet_nil ?_
        rintro _ ⟨y, rfl⟩
        replace H := y.h
        clear c0 c1 hL hL2
        have HB := G1
        clear G1
        go_upto_region 3 with (fail)
        obtain ⟨L, hl8, sL, r8⟩ := all_c RX
        refine wp_region_prefix 24 H ?_
        simp only [List.take_succ_cons, List.take_zero, List.drop_succ_cons, List.drop_zero]
        (go_big_quiet_want; (refine quiet_field 46 (.tmp 4) 11 rfl w.heap.size 0 11 rfl (fieldM11 _) ?_); go_big_quiet_on; simp only [Act.put, List.setIfInBounds_toArray, List.set_cons_succ, List.set_cons_zero])
        (go_big_quiet_want; (refine quiet_load 27 (.tmp 37) rfl w.heap.size 11 9 20 rfl rfl (C := M) _ (after_blk hX) (by rw [sM]; decide) Tryz.underlying27 rfl (by kernel_rfl) ?_); go_big_quiet_on; simp only [Act.put, List.setIfInBounds_toArray, List.set_cons_succ, List.set_cons_zero])
        (go_big_quiet_want; (refine quiet_build 46 #[(11, .tmp 38)] rfl (ps := #[(11, .agg (M.extract 11 20))]) (by kernel_rfl) (fun _ => buildNode _ RX.r0.size) ?_); go_big_quiet_on; simp only [Act.put, List.setIfInBounds_toArray, List.set_cons_succ, List.set_cons_zero])
        (go_big_quiet_want; (refine quiet_field 46 (.tmp 4) 12 rfl w.heap.size 0 20 rfl (fieldM12 _) ?_); go_big_quiet_on; simp only [Act.put, List.setIfInBounds_toArray, List.set_cons_succ, List.set_cons_zero])
        (go_big_quiet_want; (refine quiet_load 29 (.tmp 40) rfl w.heap.size 20 5 25 rfl rfl (C := M) _ (after_blk hX) (by rw [sM]; decide) Tryz.underlying29 rfl (by kernel_rfl) ?_); go_big_quiet_on; simp only [Act.put, List.setIfInBounds_toArray, List.set_cons_succ, List.set_cons_zero])
        (go_big_quiet_want; (refine quiet_build 46 #[(12, .tmp 41)] rfl (ps := #[(12, .agg (M.extract 20 25))]) (by kernel_rfl) (fun _ => buildField _ RX.r1.size) ?_); go_big_quiet_on; simp only [Act.put, List.setIfInBounds_toArray, List.set_cons_succ, List.set_cons_zero])
        (go_big_quiet_want; (refine quiet_field 46 (.tmp 4) 13 rfl w.heap.size 0 25 rfl (fieldM13 _) ?_); go_big_quiet_on; simp only [Act.put, List.setIfInBounds_toArray, List.set_cons_succ, List.set_cons_zero])
        (go_big_quiet_want; (refine quiet_load 32 (.tmp 43) rfl w.heap.size 25 5 30 rfl rfl (C := M) _ (after_blk hX) (by rw [sM]; decide) Tryz.underlying32 rfl (by kernel_rfl) ?_); go_big_quiet_on; simp only [Act.put, List.setIfInBounds_toArray, List.set_cons_succ, List.set_cons_zero])
        (go_big_quiet_want; (refine quiet_build 46 #[(13, .tmp 44)] rfl (ps := #[(13, .agg (M.extract 25 30))]) (by kernel_rfl) (fun _ => buildTable _ RX.r2.size) ?_); go_big_quiet_on; simp only [Act.put, List.setIfInBounds_toArray, List.set_cons_succ, List.set_cons_zero])
        (go_big_quiet_want; (refine quiet_field 46 (.tmp 4) 14 rfl w.heap.size 0 30 rfl (fieldM14 _) ?_); go_big_quiet_on; simp only [Act.put, List.setIfInBounds_toArray, List.set_cons_succ, List.set_cons_zero])
        (go_big_quiet_want; (refine quiet_load 34 (.tmp 46) rfl w.heap.size 30 11 41 rfl rfl (C := M) _ (after_blk hX) (by rw [sM]; decide) Tryz.underlying34 rfl (by kernel_rfl) ?_); go_big_quiet_on; simp only [Act.put, List.setIfInBounds_toArray, List.set_cons_succ, List.set_cons_zero])
        (go_big_quiet_want; (refine quiet_build 46 #[(14, .tmp 47)] rfl (ps := #[(14, .agg (M.extract 30 41))]) (by kernel_rfl) (fun _ => buildEntry _ RX.r3.size) ?_); go_big_quiet_on; simp only [Act.put, List.setIfInBounds_toArray, List.set_cons_succ, List.set_cons_zero])
        (go_big_quiet_want; (refine quiet_field 46 (.tmp 4) 15 rfl w.heap.size 0 41 rfl (fieldM15 _) ?_); go_big_quiet_on; simp only [Act.put, List.setIfInBounds_toArray, List.set_cons_succ, List.set_cons_zero])
        (go_big_quiet_want; (refine quiet_load 37 (.tmp 49) rfl w.heap.size 41 2 43 rfl rfl (C := M) _ (after_blk hX) (by rw [sM]; decide) Tryz.underlying37 rfl (by kernel_rfl) ?_); go_big_quiet_on; simp only [Act.put, List.setIfInBounds_toArray, List.set_cons_succ, List.set_cons_zero])
        (go_big_quiet_want; (refine quiet_build 46 #[(15, .tmp 50)] rfl (ps := #[(15, .agg (M.extract 41 43))]) (by kernel_rfl) (fun _ => buildBlock _ RX.r4.size) ?_); go_big_quiet_on; simp only [Act.put, List.setIfInBounds_toArray, List.set_cons_succ, List.set_cons_zero])
        (go_big_quiet_want; (refine quiet_field 46 (.tmp 4) 16 rfl w.heap.size 0 43 rfl (fieldM16 _) ?_); go_big_quiet_on; simp only [Act.put, List.setIfInBounds_toArray, List.set_cons_succ, List.set_cons_zero])
        (go_big_quiet_want; (refine quiet_load 40 (.tmp 52) rfl w.heap.size 43 4 47 rfl rfl (C := M) _ (after_blk hX) (by rw [sM]; decide) Tryz.underlying40 rfl (by kernel_rfl) ?_); go_big_quiet_on; simp only [Act.put, List.setIfInBounds_toArray, List.set_cons_succ, List.set_cons_zero])
        (go_big_quiet_want; (refine quiet_build 46 #[(16, .tmp 53)] rfl (ps := #[(16, .agg (M.extract 43 47))]) (by kernel_rfl) (fun _ => buildGroup _ RX.r5.size) ?_); go_big_quiet_on; simp only [Act.put, List.setIfInBounds_toArray, List.set_cons_succ, List.set_cons_zero])
        (go_big_quiet_want; (refine quiet_field 46 (.tmp 4) 17 rfl w.heap.size 0 47 rfl (fieldM17 _) ?_); go_big_quiet_on; simp only [Act.put, List.setIfInBounds_toArray, List.set_cons_succ, List.set_cons_zero])
        (go_big_quiet_want; (refine quiet_load 42 (.tmp 55) rfl w.heap.size 47 3 50 rfl rfl (C := M) _ (after_blk hX) (by rw [sM]; decide) Tryz.underlying42 rfl (by kernel_rfl) ?_); go_big_quiet_on; simp only [Act.put, List.setIfInBounds_toArray, List.set_cons_succ, List.set_cons_zero])
        (go_big_quiet_want; (refine quiet_build 46 #[(17, .tmp 56)] rfl (ps := #[(17, .agg (M.extract 47 50))]) (by kernel_rfl) (fun _ => buildMeter _ RX.r6.size) ?_); go_big_quiet_on; simp only [Act.put, List.setIfInBounds_toArray, List.set_cons_succ, List.set_cons_zero])
        (go_big_quiet_want; (refine quiet_field 46 (.tmp 4) 18 rfl w.heap.size 0 50 rfl (fieldM18 _) ?_); go_big_quiet_on; simp only [Act.put, List.setIfInBounds_toArray, List.set_cons_succ, List.set_cons_zero])
        (go_big_quiet_want; (refine quiet_load 44 (.tmp 58) rfl w.heap.size 50 2 52 rfl rfl (C := M) _ (after_blk hX) (by rw [sM]; decide) Tryz.underlying44 rfl (by kernel_rfl) ?_); go_big_quiet_on; simp only [Act.put, List.setIfInBounds_toArray, List.set_cons_succ, List.set_cons_zero])
        (go_big_quiet_want; (refine quiet_build 46 #[(18, .tmp 59)] rfl (ps := #[(18, .agg (M.extract 50 52))]) (by kernel_rfl) (fun _ => buildRegs _ RX.r7.size) ?_); go_big_quiet_on; simp only [Act.put, List.setIfInBounds_toArray, List.set_cons_succ, List.set_cons_zero])
        refine wpQuiet_nil ?_
        rintro _ ⟨y2, rfl⟩
        replace H := y2.h
        refine wpList_buildSlice rfl 72 8 #[(0, .tmp 39), (1, .tmp 42), (2, .tmp 45), (3, .tmp 48), (4, .tmp 51), (5, .tmp 54), (6, .tmp 57), (7, .tmp 60)] rfl (ps := #[(0, .agg (setPart zM 11 (M.extract 11 20))), (1, .agg (setPart zM 20 (M.extract 20 25))), (2, .agg (setPart zM 25 (M.extract 25 30))), (3, .agg (setPart zM 30 (M.extract 30 41))), (4, .agg (setPart zM 41 (M.extract 41 43))), (5, .agg (setPart zM 43 (M.extract 43 47))), (6, .agg (setPart zM 47 (M.extract 47 50))), (7, .agg (setPart zM 50 (M.extract 50 52)))]) (by kernel_rfl) (hl8 _) ?_
        try simp only [Act.put, List.setIfInBounds_toArray, List.set_cons_succ, List.set_cons_zero]
        go_upto_region 4 with (fail)
        have hL := heap_alloc_new y2.w (.cells L 46)
        have H2 := H.alloc (.cells L 46)
        obtain ⟨BL, hBe⟩ : ∃ X, y2.w.heap.size = X := ⟨_, rfl⟩
        obtain ⟨wL, hwB⟩ : ∃ wB, y2.w.alloc (.cells L 46) = wB := ⟨_, rfl⟩
        rw [hwB] at hL H2 ⊢
        rw [hBe] at hL ⊢
        clear hwB hBe H
        replace RX := RX.on H2
        replace RY := RY.on H2
        replace hX := wide_blk hX H2
        replace hY := wide_blk hY H2
        replace HB := Lib.hid (HB.out.trans H2)
        have H : Wider wL wL := Wider.refl _
        clear H2 hl8
        have r8a := r8
        clear r8
        obtain ⟨E, hl8, sE, r8⟩ := all_c RY
        refine wp_region_prefix 24 H ?_
        simp only [List.take_succ_cons, List.take_zero, List.drop_succ_cons, List.drop_zero]
        (go_big_quiet_want; (refine quiet_field 46 (.tmp 5) 11 rfl (w.heap.size + 1) 0 11 rfl (fieldM11 _) ?_); go_big_quiet_on; simp only [Act.put, List.setIfInBounds_toArray, List.set_cons_succ, List.set_cons_zero])
        (go_big_quiet_want; (refine quiet_load 27 (.tmp 62) rfl (w.heap.size + 1) 11 9 20 rfl rfl (C := N) _ (after_blk hY) (by rw [sN]; decide) Tryz.underlying27 rfl (by kernel_rfl) ?_); go_big_quiet_on; simp only [Act.put, List.setIfInBounds_toArray, List.set_cons_succ, List.set_cons_zero])
        (go_big_quiet_want; (refine quiet_build 46 #[(11, .tmp 63)] rfl (ps := #[(11, .agg (N.extract 11 20))]) (by kernel_rfl) (fun _ => buildNode _ RY.r0.size) ?_); go_big_quiet_on; simp only [Act.put, List.setIfInBounds_toArray, List.set_cons_succ, List.set_cons_zero])
        (go_big_quiet_want; (refine quiet_field 46 (.tmp 5) 12 rfl (w.heap.size + 1) 0 20 rfl (fieldM12 _) ?_); go_big_quiet_on; simp only [Act.put, List.setIfInBounds_toArray, List.set_cons_succ, List.set_cons_zero])
        (go_big_quiet_want; (refine quiet_load 29 (.tmp 65) rfl (w.heap.size + 1) 20 5 25 rfl rfl (C := N) _ (after_blk hY) (by rw [sN]; decide) Tryz.underlying29 rfl (by kernel_rfl) ?_); go_big_quiet_on; simp only [Act.put, List.setIfInBounds_toArray, List.set_cons_succ, List.set_cons_zero])
        (go_big_quiet_want; (refine quiet_build 46 #[(12, .tmp 66)] rfl (ps := #[(12, .agg (N.extract 20 25))]) (by kernel_rfl) (fun _ => buildField _ RY.r1.size) ?_); go_big_quiet_on; simp only [Act.put, List.setIfInBounds_toArray, List.set_cons_succ, List.set_cons_zero])
        (go_big_quiet_want; (refine quiet_field 46 (.tmp 5) 13 rfl (w.heap.size + 1) 0 25 rfl (fieldM13 _) ?_); go_big_quiet_on; simp only [Act.put, List.setIfInBounds_toArray, List.set_cons_succ, List.set_cons_zero])
        (go_big_quiet_want; (refine quiet_load 32 (.tmp 68) rfl (w.heap.size + 1) 25 5 30 rfl rfl (C := N) _ (after_blk hY) (by rw [sN]; decide) Tryz.underlying32 rfl (by kernel_rfl) ?_); go_big_quiet_on; simp only [Act.put, List.setIfInBounds_toArray, List.set_cons_succ, List.set_cons_zero])
        (go_big_quiet_want; (refine quiet_build 46 #[(13, .tmp 69)] rfl (ps := #[(13, .agg (N.extract 25 30))]) (by kernel_rfl) (fun _ => buildTable _ RY.r2.size) ?_); go_big_quiet_on; simp only [Act.put, List.setIfInBounds_toArray, List.set_cons_succ, List.set_cons_zero])
        (go_big_quiet_want; (refine quiet_field 46 (.tmp 5) 14 rfl (w.heap.size + 1) 0 30 rfl (fieldM14 _) ?_); go_big_quiet_on; simp only [Act.put, List.setIfInBounds_toArray, List.set_cons_succ, List.set_cons_zero])
        (go_big_quiet_want; (refine quiet_load 34 (.tmp 71) rfl (w.heap.size + 1) 30 11 41 rfl rfl (C := N) _ (after_blk hY) (by rw [sN]; decide) Tryz.underlying34 rfl (by kernel_rfl) ?_); go_big_quiet_on; simp only [Act.put, List.setIfInBounds_toArray, List.set_cons_succ, List.set_cons_zero])
        (go_big_quiet_want; (refine quiet_build 46 #[(14, .tmp 72)] rfl (ps := #[(14, .agg (N.extract 30 41))]) (by kernel_rfl) (fun _ => buildEntry _ RY.r3.size) ?_); go_big_quiet_on; simp only [Act.put, List.setIfInBounds_toArray, List.set_cons_succ, List.set_cons_zero])
        (go_big_quiet_want; (refine quiet_field 46 (.tmp 5) 15 rfl (w.heap.size + 1) 0 41 rfl (fieldM15 _) ?_); go_big_quiet_on; simp only [Act.put, List.setIfInBounds_toArray, List.set_cons_succ, List.set_cons_zero])
        (go_big_quiet_want; (refine quiet_load 37 (.tmp 74) rfl (w.heap.size + 1) 41 2 43 rfl rfl (C := N) _ (after_blk hY) (by rw [sN]; decide) Tryz.underlying37 rfl (by kernel_rfl) ?_); go_big_quiet_on; simp only [Act.put, List.setIfInBounds_toArray, List.set_cons_succ, List.set_cons_zero])
        (go_big_quiet_want; (refine quiet_build 46 #[(15, .tmp 75)] rfl (ps := #[(15, .agg (N.extract 41 43))]) (by kernel_rfl) (fun _ => buildBlock _ RY.r4.size) ?_); go_big_quiet_on; simp only [Act.put, List.setIfInBounds_toArray, List.set_cons_succ, List.set_cons_zero])
        (go_big_quiet_want; (refine quiet_field 46 (.tmp 5) 16 rfl (w.heap.size + 1) 0 43 rfl (fieldM16 _) ?_); go_big_quiet_on; simp only [Act.put, List.setIfInBounds_toArray, List.set_cons_succ, List.set_cons_zero])
        (go_big_quiet_want; (refine quiet_load 40 (.tmp 77) rfl (w.heap.size + 1) 43 4 47 rfl rfl (C := N) _ (after_blk hY) (by rw [sN]; decide) Tryz.underlying40 rfl (by kernel_rfl) ?_); go_big_quiet_on; simp only [Act.put, List.setIfInBounds_toArray, List.set_cons_succ, List.set_cons_zero])
        (go_big_quiet_want; (refine quiet_build 46 #[(16, .tmp 78)] rfl (ps := #[(16, .agg (N.extract 43 47))]) (by kernel_rfl) (fun _ => buildGroup _ RY.r5.size) ?_); go_big_quiet_on; simp only [Act.put, List.setIfInBounds_toArray, List.set_cons_succ, List.set_cons_zero])
        (go_big_quiet_want; (refine quiet_field 46 (.tmp 5) 17 rfl (w.heap.size + 1) 0 47 rfl (fieldM17 _) ?_); go_big_quiet_on; simp only [Act.put, List.setIfInBounds_toArray, List.set_cons_succ, List.set_cons_zero])
        (go_big_quiet_want; (refine quiet_load 42 (.tmp 80) rfl (w.heap.size + 1) 47 3 50 rfl rfl (C := N) _ (after_blk hY) (by rw [sN]; decide) Tryz.underlying42 rfl (by kernel_rfl) ?_); go_big_quiet_on; simp only [Act.put, List.setIfInBounds_toArray, List.set_cons_succ, List.set_cons_zero])
        (go_big_quiet_want; (refine quiet_build 46 #[(17, .tmp 81)] rfl (ps := #[(17, .agg (N.extract 47 50))]) (by kernel_rfl) (fun _ => buildMeter _ RY.r6.size) ?_); go_big_quiet_on; simp only [Act.put, List.setIfInBounds_toArray, List.set_cons_succ, List.set_cons_zero])
        (go_big_quiet_want; (refine quiet_field 46 (.tmp 5) 18 rfl (w.heap.size + 1) 0 50 rfl (fieldM18 _) ?_); go_big_quiet_on; simp only [Act.put, List.setIfInBounds_toArray, List.set_cons_succ, List.set_cons_zero])
        (go_big_quiet_want; (refine quiet_load 44 (.tmp 83) rfl (w.heap.size + 1) 50 2 52 rfl rfl (C := N) _ (after_blk hY) (by rw [sN]; decide) Tryz.underlying44 rfl (by kernel_rfl) ?_); go_big_quiet_on; simp only [Act.put, List.setIfInBounds_toArray, List.set_cons_succ, List.set_cons_zero])
        (go_big_quiet_want; (refine quiet_build 46 #[(18, .tmp 84)] rfl (ps := #[(18, .agg (N.extract 50 52))]) (by kernel_rfl) (fun _ => buildRegs _ RY.r7.size) ?_); go_big_quiet_on; simp only [Act.put, List.setIfInBounds_toArray, List.set_cons_succ, List.set_cons_zero])
        refine wpQuiet_nil ?_
        rintro _ ⟨y3, rfl⟩
        replace H := y3.h
        refine wpList_buildSlice rfl 72 8 #[(0, .tmp 64), (1, .tmp 67), (2, .tmp 70), (3, .tmp 73), (4, .tmp 76), (5, .tmp 79), (6, .tmp 82), (7, .tmp 85)] rfl (ps := #[(0, .agg (setPart zM 11 (N.extract 11 20))), (1, .agg (setPart zM 20 (N.extract 20 25))), (2, .agg (setPart zM 25 (N.extract 25 30))), (3, .agg (setPart zM 30 (N.extract 30 41))), (4, .agg (setPart zM 41 (N.extract 41 43))), (5, .agg (setPart zM 43 (N.extract 43 47))), (6, .agg (setPart zM 47 (N.extract 47 50))), (7, .agg (setPart zM 50 (N.extract 50 52)))]) (by kernel_rfl) (hl8 _) ?_
        try simp only [Act.put, List.setIfInBounds_toArray, List.set_cons_succ, List.set_cons_zero]
        go_upto_region 5 with (fail)
        have hE := heap_alloc_new y3.w (.cells E 46)
        have H2 := H.alloc (.cells E 46)
        obtain ⟨BE, hBe⟩ : ∃ X, y3.w.heap.size = X := ⟨_, rfl⟩
        obtain ⟨wE, hwB⟩ : ∃ wB, y3.w.alloc (.cells E 46) = wB := ⟨_, rfl⟩
        rw [hwB] at hE H2 ⊢
        rw [hBe] at hE ⊢
        clear hwB hBe H
        replace RX := RX.on H2
        replace RY := RY.on H2
        replace hX := wide_blk hX H2
        replace hY := wide_blk hY H2
        replace hL := wide_blk hL H2
        replace HB := Lib.hid (HB.out.trans H2)
        have H : Wider wE wE := Wider.refl _
        clear H2 hl8
        have r8b := r8
        clear r8
        go_wp2
        go_loopw [11] (fun i wr => ∃ k : Nat, k ≤ 8 ∧ i = .int .i64 (k : Int) ∧ Wider wE wr) (fun i _ => 8 - (intOf i).toNat)
        case atStart => exact ⟨0, by omega, by simp, H⟩
        case round =>
          obtain ⟨k, hk, rfl, H0⟩ := hrel
          by_cases ck : k < 8
          · have j0 : (0 : Int) ≤ (k : Int) := by omega
            have j1 : (k : Int) < 8 := by omega
            replace RX := RX.on H0
            replace RY := RY.on H0
            replace hX := wide_blk hX H0
            replace hY := wide_blk hY H0
            replace hL := wide_blk hL H0
            replace hE := wide_blk hE H0
            have RL : RepA wr (L.extract (k * 52) (k * 52 + 52)) (oneV k (V k)) := r8a k ck _ RX
            have RE : RepA wr (E.extract (k * 52) (k * 52 + 52)) (oneV k (U k)) := r8b k ck _ RY
            have HB := Lib.hid H0
            have H : Wider wr wr := Wider.refl wr
            clear H0 r8a r8b
            go_upto_region 8 with (fail)
            rcases put_ways k (V k) with ⟨ov, hb, hp⟩ | ⟨hb, hp⟩
            · replace hb := Lib.hid hb
              rcases put_ways k (U k) with ⟨ou, hc, hq⟩ | ⟨hc, hq⟩
              · replace hc := Lib.hid hc
                obtain ⟨T1, hT1⟩ : ∃ T1, encG (csKind k) (V k) = T1 := ⟨_, rfl⟩
                obtain ⟨T2, hT2⟩ : ∃ T2, encG (csKind k) (U k) = T2 := ⟨_, rfl⟩
                rw [hT1] at hp
                rw [hT2] at hq
                obtain ⟨g, hg⟩ := some_bool2 (V k = U k)
                have hss : Hid (g = true ↔ ∀ j, j < 8 → oneV k (V k) j = oneV k (U k) j) := hg.trans (oneV_eq ck).symm
                have hst : (g = true → T1 = T2) ∧ (g = false → T1 ≠ T2) := ⟨fun e => by rw [← hT1, ← hT2, hg.1 e], fun e e2 => by
                  have q := hg.2 (encG_inj (csKind k) (V k) (U k) ov ou (csKind_cap k) (by have := csKind_length k; omega) (by rw [hT1, hT2, e2]))
                  rw [e] at q; cases q⟩
                have HT := Lib.hid hst
                replace hT1 := Lib.hid hT1
                clear hst hT2 hg ou
                refine wp_region_plain H ?_
                repeat (first
                  | (go_big_quiet_want; (refine quiet_row 46 (.tmp 4) rfl w.heap.size rfl (C := M) _ (after_blk hX) Tryz.underlying46 rfl (by rw [sM]; kernel_rfl) ?_); go_big_quiet_on; simp only [Act.put, List.setIfInBounds_toArray, List.set_cons_succ, List.set_cons_zero])
                  | (go_big_quiet_step (first | (fail) | (go_at_call 12; exact quiet_after ((RX.on (After.h _)).puts k ck hb.out hp))); (try simp only [Bool.false_eq_true, ↓reduceIte])))
                refine wpQuiet_nil ?_
                rintro _ ⟨y4, rfl⟩
                replace H := y4.h
                go_upto_region 9 with (fail)
                refine wp_region_plain H ?_
                repeat (first
                  | (go_big_quiet_want; (refine quiet_row 46 (.tmp 5) rfl (w.heap.size + 1) rfl (C := N) _ (after_blk hY) Tryz.underlying46 rfl (by rw [sN]; kernel_rfl) ?_); go_big_quiet_on; simp only [Act.put, List.setIfInBounds_toArray, List.set_cons_succ, List.set_cons_zero])
                  | (go_big_quiet_step (first | (fail) | (go_at_call 12; exact quiet_after ((RY.on (After.h _)).puts k ck hc.out hq))); (try simp only [Bool.false_eq_true, ↓reduceIte])))
                refine wpQuiet_nil ?_
                rintro _ ⟨y5, rfl⟩
                replace H := y5.h
                go_upto_region 10 with (fail)
                refine wp_region_plain H ?_
                repeat (first
                  | (go_big_quiet_step (first | (fail)); (try simp only [Bool.false_eq_true, ↓reduceIte])))
                refine wpQuiet_nil ?_
                rintro _ ⟨y6, rfl⟩
                replace H := y6.h
                go_upto_region 11 with (fail)
                cases g with
                | true =>
                  obtain rfl := HT.out.1 rfl
                  refine wp_region_after (by kernel_rfl) (by kernel_rfl) H ?_
                  (try simp only [Int.natCast_zero])
                  repeat (first
                    | (go_big_quiet_want; (refine quiet_load 46 (.tmp 116) rfl BL (k * 52) 52 (k * 52 + 52) rfl rfl (C := L) _ (after_blk hL) (by rw [sL]; omega) Tryz.underlying46 rfl (by kernel_rfl) ?_); go_big_quiet_on; simp only [Act.put, List.setIfInBounds_toArray, List.set_cons_succ, List.set_cons_zero])
                    | (go_big_quiet_want; (refine quiet_load 46 (.tmp 120) rfl BE (k * 52) 52 (k * 52 + 52) rfl rfl (C := E) _ (after_blk hE) (by rw [sE]; omega) Tryz.underlying46 rfl (by kernel_rfl) ?_); go_big_quiet_on; simp only [Act.put, List.setIfInBounds_toArray, List.set_cons_succ, List.set_cons_zero])
                    | (go_big_quiet_step (first | (fail) | (go_at_call 14; exact quiet_after (same_c _ (RL.on (After.h _)) (RE.on (After.h _)) hss.out))); (try simp only [Bool.false_eq_true, ↓reduceIte])))
                  refine wpQuiet_nil ?_
                  rintro _ ⟨y7, rfl⟩
                  replace H := y7.h
                  have hcv := conv3
                  have zr := fun (W : World) (x y z : Int) (hx : x = max 12 n) (hy : y = (s.size : Int) / 256 % 256) (hz : z = (s.size : Int) % 256) => readsA (T1 ++ strOfNums [x, y, z] ++ s) W (by have q := encG_small ov; rw [hT1.out] at q; have e : (strOfNums [x, y, z]).size = 3 := rfl; have q2 := hs5.out; simp only [ByteArray.size_append]; omega) k ck (dec_more ov hT1.out n0 n1 hs5.out hx hy hz)
                  have ez : oneV k (zeroG (csKind k)) = zV := oneV_zero k
                  rw [ez] at zr
                  have ts : T1.size < 900000 := by have q := encG_small ov; rwa [hT1.out] at q
                  have ss := hs5.out
                  have es : ∀ x y z : Int, (strOfNums [x, y, z]).size = 3 := fun _ _ _ => rfl
                  clear hT1 ov ez
                  go_upto_region 15 with (first
                    | (go_at_call 16; (with_reducible refine (zr _ (max 12 n) ((s.size : Int) / 256) ((s.size : Int) % 256) rfl (by omega) rfl).mono ?_); rintro e wN ⟨Z, rfl, gN, RZ, oZ⟩; replace H := (H.alloc _).trans gN; clear gN; have sZ := RZ.size)
                    | (with_reducible refine wpList_extract rfl (.tmp 126) 0 rfl rfl rfl ?_)
                    | (with_reducible refine wpList_extract rfl (.tmp 126) 1 rfl rfl rfl ?_)
                    | (with_reducible refine wpList_store_row rfl 46 (.tmp 19) (.tmp 143) rfl wN.heap.size Z rfl rfl 46 zM (heap_alloc_new wN _) (by rw [sZ]; kernel_rfl) (by rw [sZ]; exact zM_size) oZ ?_))
                  (try simp only [List.getElem?_cons_zero, Option.getD_some])
                  have HS := (setRow_facts Z (heap_alloc_new wN (.cells zM 46))).1
                  have hZ := (setRow_facts Z (heap_alloc_new wN (.cells zM 46))).2
                  have H2 := HS.wider (H.alloc _) (fun i m => by simp only [List.mem_singleton] at m; subst m; exact H.2)
                  have H3 := HS.wider ((Wider.refl wN).alloc _) (fun i m => by simp only [List.mem_singleton] at m; subst m; exact Nat.le_refl _)
                  replace RZ := RZ.on H3
                  clear HS H3 oZ
                  obtain ⟨BZ, hBe⟩ : ∃ B, wN.heap.size = B := ⟨_, rfl⟩
                  obtain ⟨wZ, hwS⟩ : ∃ wS, (wN.alloc (.cells zM 46)).setRow wN.heap.size Z = wS := ⟨_, rfl⟩
                  rw [hwS] at hZ H2 RZ ⊢
                  rw [hBe] at hZ ⊢
                  clear hwS hBe H
                  replace HB := Lib.hid (HB.out.trans H2)
                  have H : Wider wZ wZ := Wider.refl _
                  clear H2
                  have hst : Hid (true = true ↔ ∀ j, j < 8 → zV j = zV j) := ⟨fun _ _ _ => rfl, fun _ => rfl⟩
                  refine wp_region_plain H ?_
                  repeat (first
                    | (go_big_quiet_want; (refine quiet_row 46 (.tmp 19) rfl BZ rfl (C := Z) _ (after_blk hZ) Tryz.underlying46 rfl (by rw [sZ]; kernel_rfl) ?_); go_big_quiet_on; simp only [Act.put, List.setIfInBounds_toArray, List.set_cons_succ, List.set_cons_zero])
                    | (go_big_quiet_want; (refine quiet_build 46 #[] rfl (ps := #[]) rfl build0 ?_); go_big_quiet_on; simp only [Act.put, List.setIfInBounds_toArray, List.set_cons_succ, List.set_cons_zero])
                    | (go_big_quiet_step (first | (fail) | (go_at_call 14; exact quiet_after (same_c _ (RZ.on (After.h _)) (zM_rep _) hst.out))); (try simp only [Bool.false_eq_true, ↓reduceIte])))
                  refine wpQuiet_nil ?_
                  rintro _ ⟨y8, rfl⟩
                  replace H := y8.h
                  have HE := HB.out.trans H
                  go_wp2
                  go_roundw
                  case rel => exact ⟨k + 1, by omega, by go_num, HE⟩
                  case measure => simp [intOf]; omega
                | false =>
                  have hne := HT.out.2 rfl
                  have hne2 : (T1.toList == T2.toList) = false := by rw [beq_eq_false_iff_ne, ByteArray.toList_eq, ByteArray.toList_eq]; intro p; exact hne (ba_ext p)
                  have hne3 : ¬ T1.toList = T2.toList := by rw [ByteArray.toList_eq, ByteArray.toList_eq]; intro p; exact hne (ba_ext p)
                  refine wp_region_after (by kernel_rfl) (by kernel_rfl) H ?_
                  (try simp only [Int.natCast_zero])
                  repeat (first
                    | (go_big_quiet_want; (refine quiet_load 46 (.tmp 116) rfl BL (k * 52) 52 (k * 52 + 52) rfl rfl (C := L) _ (after_blk hL) (by rw [sL]; omega) Tryz.underlying46 rfl (by kernel_rfl) ?_); go_big_quiet_on; simp only [Act.put, List.setIfInBounds_toArray, List.set_cons_succ, List.set_cons_zero])
                    | (go_big_quiet_want; (refine quiet_load 46 (.tmp 120) rfl BE (k * 52) 52 (k * 52 + 52) rfl rfl (C := E) _ (after_blk hE) (by rw [sE]; omega) Tryz.underlying46 rfl (by kernel_rfl) ?_); go_big_quiet_on; simp only [Act.put, List.setIfInBounds_toArray, List.set_cons_succ, List.set_cons_zero])
                    | (go_big_quiet_step (first | (fail) | (go_at_call 14; exact quiet_after (same_c _ (RL.on (After.h _)) (RE.on (After.h _)) hss.out))); (try simp only [Bool.false_eq_true, ↓reduceIte])))
                  refine wpQuiet_nil ?_
                  rintro _ ⟨y7, rfl⟩
                  replace H := y7.h
                  have hcv := conv3
                  have zr := fun (W : World) (x y z : Int) (hx : x = max 12 n) (hy : y = (s.size : Int) / 256 % 256) (hz : z = (s.size : Int) % 256) => readsA (T1 ++ strOfNums [x, y, z] ++ s) W (by have q := encG_small ov; rw [hT1.out] at q; have e : (strOfNums [x, y, z]).size = 3 := rfl; have q2 := hs5.out; simp only [ByteArray.size_append]; omega) k ck (dec_more ov hT1.out n0 n1 hs5.out hx hy hz)
                  have ez : oneV k (zeroG (csKind k)) = zV := oneV_zero k
                  rw [ez] at zr
                  have ts : T1.size < 900000 := by have q := encG_small ov; rwa [hT1.out] at q
                  have ss := hs5.out
                  have es : ∀ x y z : Int, (strOfNums [x, y, z]).size = 3 := fun _ _ _ => rfl
                  clear hT1 ov ez
                  go_upto_region 15 with (first
                    | (go_at_call 16; (with_reducible refine (zr _ (max 12 n) ((s.size : Int) / 256) ((s.size : Int) % 256) rfl (by omega) rfl).mono ?_); rintro e wN ⟨Z, rfl, gN, RZ, oZ⟩; replace H := (H.alloc _).trans gN; clear gN; have sZ := RZ.size)
                    | (with_reducible refine wpList_extract rfl (.tmp 126) 0 rfl rfl rfl ?_)
                    | (with_reducible refine wpList_extract rfl (.tmp 126) 1 rfl rfl rfl ?_)
                    | (with_reducible refine wpList_store_row rfl 46 (.tmp 19) (.tmp 143) rfl wN.heap.size Z rfl rfl 46 zM (heap_alloc_new wN _) (by rw [sZ]; kernel_rfl) (by rw [sZ]; exact zM_size) oZ ?_))
                  (try simp only [List.getElem?_cons_zero, Option.getD_some])
                  have HS := (setRow_facts Z (heap_alloc_new wN (.cells zM 46))).1
                  have hZ := (setRow_facts Z (heap_alloc_new wN (.cells zM 46))).2
                  have H2 := HS.wider (H.alloc _) (fun i m => by simp only [List.mem_singleton] at m; subst m; exact H.2)
                  have H3 := HS.wider ((Wider.refl wN).alloc _) (fun i m => by simp only [List.mem_singleton] at m; subst m; exact Nat.le_refl _)
                  replace RZ := RZ.on H3
                  clear HS H3 oZ
                  obtain ⟨BZ, hBe⟩ : ∃ B, wN.heap.size = B := ⟨_, rfl⟩
                  obtain ⟨wZ, hwS⟩ : ∃ wS, (wN.alloc (.cells zM 46)).setRow wN.heap.size Z = wS := ⟨_, rfl⟩
                  rw [hwS] at hZ H2 RZ ⊢
                  rw [hBe] at hZ ⊢
                  clear hwS hBe H
                  replace HB := Lib.hid (HB.out.trans H2)
                  have H : Wider wZ wZ := Wider.refl _
                  clear H2
                  have hst : Hid (true = true ↔ ∀ j, j < 8 → zV j = zV j) := ⟨fun _ _ _ => rfl, fun _ => rfl⟩
                  refine wp_region_plain H ?_
                  repeat (first
                    | (go_big_quiet_want; (refine quiet_row 46 (.tmp 19) rfl BZ rfl (C := Z) _ (after_blk hZ) Tryz.underlying46 rfl (by rw [sZ]; kernel_rfl) ?_); go_big_quiet_on; simp only [Act.put, List.setIfInBounds_toArray, List.set_cons_succ, List.set_cons_zero])
                    | (go_big_quiet_want; (refine quiet_build 46 #[] rfl (ps := #[]) rfl build0 ?_); go_big_quiet_on; simp only [Act.put, List.setIfInBounds_toArray, List.set_cons_succ, List.set_cons_zero])
                    | (go_big_quiet_step (first | (fail) | (go_at_call 14; exact quiet_after (same_c _ (RZ.on (After.h _)) (zM_rep _) hst.out))); (try simp only [Bool.false_eq_true, ↓reduceIte])))
                  refine wpQuiet_nil ?_
                  rintro _ ⟨y8, rfl⟩
                  replace H := y8.h
                  have HE := HB.out.trans H
                  go_wp2
                  go_roundw
                  case rel => exact ⟨k + 1, by omega, by go_num, HE⟩
                  case measure => simp [intOf]; omega
              · replace hc := Lib.hid hc
                refine wp_region_plain H ?_
                repeat (first
                  | (go_big_quiet_want; (refine quiet_row 46 (.tmp 4) rfl w.heap.size rfl (C := M) _ (after_blk hX) Tryz.underlying46 rfl (by rw [sM]; kernel_rfl) ?_); go_big_quiet_on; simp only [Act.put, List.setIfInBounds_toArray, List.set_cons_succ, List.set_cons_zero])
                  | (go_big_quiet_step (first | (fail) | (go_at_call 12; exact quiet_after ((RX.on (After.h _)).puts k ck hb.out hp))); (try simp only [Bool.false_eq_true, ↓reduceIte])))
                refine wpQuiet_nil ?_
                rintro _ ⟨y4, rfl⟩
                replace H := y4.h
                go_upto_region 9 with (fail)
                refine wp_region_plain H ?_
                repeat (first
                  | (go_big_quiet_want; (refine quiet_row 46 (.tmp 5) rfl (w.heap.size + 1) rfl (C := N) _ (after_blk hY) Tryz.underlying46 rfl (by rw [sN]; kernel_rfl) ?_); go_big_quiet_on; simp only [Act.put, List.setIfInBounds_toArray, List.set_cons_succ, List.set_cons_zero])
                  | (go_big_quiet_step (first | (fail) | (go_at_call 12; exact quiet_after ((RY.on (After.h _)).puts k ck hc.out hq))); (try simp only [Bool.false_eq_true, ↓reduceIte])))
                refine wpQuiet_nil ?_
                rintro _ ⟨y5, rfl⟩
                replace H := y5.h
                go_upto_region 10 with (fail)
                refine wp_region_plain H ?_
                repeat (first
                  | (go_big_quiet_step (first | (fail)); (try simp only [Bool.false_eq_true, ↓reduceIte])))
                refine wpQuiet_nil ?_
                rintro _ ⟨y6, rfl⟩
                replace H := y6.h
                have HE := HB.out.trans H
                go_wp2
                go_roundw
                case rel => exact ⟨k + 1, by omega, by go_num, HE⟩
                case measure => simp [intOf]; omega
            · replace hb := Lib.hid hb
              obtain ⟨bu, hc⟩ := some_bool2 (okG (csKind k) (U k))
              obtain ⟨T2, r2, hq, _⟩ := putG_any hc
              replace hc := Lib.hid hc
              refine wp_region_plain H ?_
              repeat (first
                | (go_big_quiet_want; (refine quiet_row 46 (.tmp 4) rfl w.heap.size rfl (C := M) _ (after_blk hX) Tryz.underlying46 rfl (by rw [sM]; kernel_rfl) ?_); go_big_quiet_on; simp only [Act.put, List.setIfInBounds_toArray, List.set_cons_succ, List.set_cons_zero])
                | (go_big_quiet_step (first | (fail) | (go_at_call 12; exact quiet_after ((RX.on (After.h _)).puts k ck hb.out hp))); (try simp only [Bool.false_eq_true, ↓reduceIte])))
              refine wpQuiet_nil ?_
              rintro _ ⟨y4, rfl⟩
              replace H := y4.h
              go_upto_region 9 with (fail)
              refine wp_region_plain H ?_
              repeat (first
                | (go_big_quiet_want; (refine quiet_row 46 (.tmp 5) rfl (w.heap.size + 1) rfl (C := N) _ (after_blk hY) Tryz.underlying46 rfl (by rw [sN]; kernel_rfl) ?_); go_big_quiet_on; simp only [Act.put, List.setIfInBounds_toArray, List.set_cons_succ, List.set_cons_zero])
                | (go_big_quiet_step (first | (fail) | (go_at_call 12; exact quiet_after ((RY.on (After.h _)).puts k ck hc.out hq))); (try simp only [Bool.false_eq_true, ↓reduceIte])))
              refine wpQuiet_nil ?_
              rintro _ ⟨y5, rfl⟩
              replace H := y5.h
              go_upto_region 10 with (fail)
              refine wp_region_plain H ?_
              repeat (first
                | (go_big_quiet_step (first | (fail)); (try simp only [Bool.false_eq_true, ↓reduceIte])))
              refine wpQuiet_nil ?_
              rintro _ ⟨y6, rfl⟩
              replace H := y6.h
              have HE := HB.out.trans H
              go_wp2
              go_roundw
              case rel => exact ⟨k + 1, by omega, by go_num, HE⟩
              case measure => simp [intOf]; omega
          · obtain rfl : k = 8 := by omega
            go_wp2
            go_ret
            exact ⟨rfl, HB.out.trans H0⟩
set_option maxRecDepth 100000 in
theorem objUnlike_lifted (os : Os) (started : os.Started) (H : Type) (enc : TypeId × Value → H) :
    ReturnsInHanded {} Tryz.checked os 8 .any (Rows.objUnlikeSpec.pre6 enc Tryz.prog Tryz.f8 Rows.objUnlikeRow.domain false) (Rows.objUnlikeSpec.post enc Tryz.prog Tryz.f8 false true false false) := by
  refine returnsInHanded_of_change_sized (C := Tryz.checked) own started (by kernel_rfl) Tryz.func8
    (ChangeSpec.witness6 (enc := enc) (C := Tryz.checked) false ⟨#[], #[.agg #[.int .u8 0, .int .u32 0, .int .i64 0, .int .i64 0, .int .i64 0, .int .i64 0, .int .i64 0, .int .u64 0, .int .u64 0, .string ⟨#[]⟩, .slice none 0 0, .int .i64 0, .int .i64 0, .int .i64 0, .int .i64 0, .int .i64 0, .int .i64 0, .int .i64 0, .slice none 0 0, .int .i64 0, .int .i64 0, .int .u8 0, .int .i64 0, .int .i64 0, .int .i64 0, .int .i64 0, .int .u8 0, .slice none 0 0, .int .i64 0, .int .i64 0, .int .i64 0, .string ⟨#[]⟩, .string ⟨#[]⟩, .int .i64 0, .int .i64 0, .int .i64 0, .slice none 0 0, .int .i64 0, .int .i64 0, .int .u64 0, .bool false, .int .i64 0, .slice none 0 0, .int .i64 0, .int .u8 0, .int .i64 0, .slice none 0 0, .int .i64 0, .int .i64 0, .int .i64 0, .int .i64 0, .int .i64 0], .agg #[.int .u8 0, .int .u32 0, .int .i64 0, .int .i64 0, .int .i64 0, .int .i64 0, .int .i64 0, .int .u64 0, .int .u64 0, .string ⟨#[]⟩, .slice none 0 0, .int .i64 0, .int .i64 0, .int .i64 0, .int .i64 0, .int .i64 0, .int .i64 0, .int .i64 0, .slice none 0 0, .int .i64 0, .int .i64 0, .int .u8 0, .int .i64 0, .int .i64 0, .int .i64 0, .int .i64 0, .int .u8 0, .slice none 0 0, .int .i64 0, .int .i64 0, .int .i64 0, .string ⟨#[]⟩, .string ⟨#[]⟩, .int .i64 0, .int .i64 0, .int .i64 0, .slice none 0 0, .int .i64 0, .int .i64 0, .int .u64 0, .bool false, .int .i64 0, .slice none 0 0, .int .i64 0, .int .u8 0, .int .i64 0, .slice none 0 0, .int .i64 0, .int .i64 0, .int .i64 0, .int .i64 0, .int .i64 0], .int .u8 0, .string ⟨#[]⟩], []⟩ 8 (by kernel_rfl) (by kernel_rfl) (by kernel_rfl) (by kernel_rfl)) ?_
  intro W base args ds gs before hval0 hW hcnd hsz _
  have hval : ∀ (j : Nat) t v, Tryz.f8.params[j]? = some t → args[j]? = some v → Value.okWide Tryz.prog W .any base t v := hval0
  have hW' := hW
  obtain ⟨p, q, hA0, hV, rfl, hfz, hnd⟩ := hW
  have hA : DataW.TrodAll enc Tryz.prog W 0 (fun _ => true) true Tryz.f8.params.toList args.toList ds p := hA0
  rw [Tryz.params8] at hA hval hsz
  obtain ⟨v0, vs0, d0, ds0, p0, q0, hargs, rfl, rfl, h0, r0⟩ := trodAll_cons hA
  obtain ⟨v1, vs1, d1, ds1, p1, q1, rfl, rfl, rfl, h1, r1⟩ := trodAll_cons r0
  obtain ⟨v2, vs2, d2, ds2, p2, q2, rfl, rfl, rfl, h2, r2⟩ := trodAll_cons r1
  obtain ⟨v3, vs3, d3, ds3, p3, q3, rfl, rfl, rfl, h3, r3⟩ := trodAll_cons r2
  obtain ⟨rfl, rfl, rfl⟩ := trodAll_nil r3
  obtain rfl : args = #[v0, v1, v2, v3] := by cases args; simp_all
  obtain ⟨rfl, rfl⟩ := trodVars_none hV
  have h0k := h0
  obtain ⟨x0, o0, rfl, f0⟩ := open_msg_few (hval 0 46 v0 rfl rfl) h0 hsz 0 rfl rfl
  have h1k := h1
  obtain ⟨x1, o1, rfl, f1⟩ := open_msg_few (hval 1 46 v1 rfl rfl) h1 hsz 1 rfl rfl
  obtain ⟨n2, rfl, rfl, rfl, w2⟩ := open_int Tryz.underlying5 (hval 2 5 v2 rfl rfl) h2
  obtain ⟨s3, rfl, rfl, rfl, w3⟩ := open_string Tryz.underlying9 (hval 3 9 v3 rfl rfl) h3
  clear hA0 hval0
  simp only [List.append_nil] at hW'
  refine (objUnlike_walk W x0 o0 f0 x1 o1 f1 n2 (bounds_u8 w2).1 (bounds_u8 w2).2 s3 w3).mono fun e W' ⟨he, hg⟩ => ?_
  subst he
  have hlt : ∀ x ∈ p0 ++ (p1), x.block < W.heap.size := fun x hx => by simpa using hW'.lt x hx
  exact ⟨_, rfl, post_of_wider (pv := []) hW' (fun _ _ _ => (trodAll_cons_mk (shut_bool Tryz.underlying4 _) trodAll_mk0)) (fun sp hsp => (trodAll_cons_mk (WideElems.Trod_stays laid3 (by kernel_rfl) (of_decide_eq_true (by kernel_rfl)) h0k (fun x hx => wsame hg (hlt x (by simp [hx]))) (fun x hx => hsp x (by simp [hx]))) (trodAll_cons_mk (WideElems.Trod_stays laid3 (by kernel_rfl) (of_decide_eq_true (by kernel_rfl)) h1k (fun x hx => wsame hg (hlt x (by simp [hx]))) (fun x hx => hsp x (by simp [hx]))) (trodAll_cons_mk (shut_int Tryz.underlying5 w2) (trodAll_cons_mk (shut_string Tryz.underlying9 w3) trodAll_mk0))))) (fun _ _ => rfl) (by simp)
    hg (ok_one (by kernel_rfl) rfl (okWide_bool_mk Tryz.underlying4 _))⟩

theorem objUnlike_holds : Rows.ObjUnlikeSaid :=
  OpenClaim.holds_of_wide 8 Tryz.f8 rfl rfl rfl rfl rfl rfl rfl ⟨rfl, rfl, rfl, rfl, rfl⟩ rfl rfl rfl rfl rfl (by kernel_rfl) Tryz.func8 (by kernel_rfl)
    (of_decide_eq_true (by kernel_rfl)) (by unfold Func.isWrapper; first | (rw [if_pos (by decide +kernel)]; kernel_rfl) | (rw [if_neg (by decide +kernel)]; exact ⟨rfl, rfl⟩))
    (fun os started H enc _ => objUnlike_lifted os started H enc)

#print axioms objUnlike_holds

end Go.Proofs.YtlldgmdgogkdiaaGreat

