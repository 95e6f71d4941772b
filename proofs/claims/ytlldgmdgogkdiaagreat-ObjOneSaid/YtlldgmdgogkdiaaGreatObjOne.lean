/- The law ObjOne: what is put, and read, is the same; what is read, and put, is as it was; what is read may be said. No condition. -/
import Derived.Test.YtlldgmdgogkdiaaGreatOLawM
import Derived.SizedLaws
namespace Go.Proofs.YtlldgmdgogkdiaaGreat
set_option linter.unusedVariables false
set_option maxRecDepth 20000
open Go.ChangeShapes Go.WideShapes Go.ChangeAt Go.RowKit Go.Joins
open Go.ChangeMaps (open_string shut_string)

set_option maxHeartbeats 16000000 in
theorem objOne_walk (w : World) (x : MsgN) (o : x.Ok w) (f : x.Few) (s : ByteArray) (hms : s.size ≤ maxLen) :
    Calls Tryz.prog 6 #[.agg x.cells.toArray, .string s] w fun e w' => e = .returned (.bool true) ∧ Wider w w' := by
  unfold maxLen at hms
  obtain ⟨b, hL, hS⟩ := MsgN.large o f
  obtain ⟨M, hM⟩ : ∃ M, x.cells.toArray = M := ⟨_, rfl⟩
  have sM : M.size = 52 := by rw [← hM]; rfl
  rw [hM] at hL hS ⊢
  clear hM o f
  have G0 := (Wider.refl w).alloc (.cells M 46)
  have hB := heap_alloc_new w (.cells M 46)
  cases b with
  | true =>
    go_enter Tryz.func6, Tryz.ntmps6
    go_upto_region 1 with (fail)
    obtain ⟨w1, hw1⟩ : ∃ w1, w.alloc (.cells M 46) = w1 := ⟨_, rfl⟩
    rw [hw1] at hB G0 ⊢
    have hX : w1.heap[w.heap.size]? = some (.cells M 46 (0, 0)) := hB
    have H : Wider w1 w1 := Wider.refl w1
    have G1 : Hid (Wider w w1) := G0
    clear G0 hB hw1
    refine wp_region_plain H ?_
    repeat (first
      | (go_big_quiet_want; (refine quiet_row 46 (.tmp 2) rfl w.heap.size rfl (C := M) _ (after_blk hX) Tryz.underlying46 rfl (by rw [sM]; kernel_rfl) ?_); go_big_quiet_on; simp only [Act.put, List.setIfInBounds_toArray, List.set_cons_succ, List.set_cons_zero])
      | (go_big_quiet_step (first | (fail) | (go_at_call 9; exact quiet_after (hL _)) | (go_at_call 10; exact quiet_after (awake8_c _))); (try simp only [Bool.false_eq_true, ↓reduceIte])))
    refine wpQuiet_nil ?_
    rintro _ ⟨y, rfl⟩
    replace H := y.h
    go_wp2_with (first
      | (go_at_call 10; (with_reducible refine (awake8_c _).mono ?_); rintro e wN ⟨rfl, gN⟩; replace H := H.trans gN; clear gN))
    go_ret
    exact ⟨rfl, G1.out.trans H⟩
  | false =>
    obtain ⟨V, R⟩ := hS rfl
    replace R := R.on G0
    by_cases h0 : 5000 < s.size
    · have c0 : decide ((5000 : Int) < (s.size : Int)) = true := decide_eq_true (by omega)
      have c1 : decide (5000 < s.size) = true := decide_eq_true h0
      go_enter Tryz.func6, Tryz.ntmps6
      go_upto_region 1 with (fail)
      obtain ⟨w1, hw1⟩ : ∃ w1, w.alloc (.cells M 46) = w1 := ⟨_, rfl⟩
      rw [hw1] at hB G0 R ⊢
      have hX : w1.heap[w.heap.size]? = some (.cells M 46 (0, 0)) := hB
      have H : Wider w1 w1 := Wider.refl w1
      have G1 : Hid (Wider w w1) := G0
      clear G0 hB hw1
      refine wp_region_plain H ?_
      repeat (first
        | (go_big_quiet_want; (refine quiet_row 46 (.tmp 2) rfl w.heap.size rfl (C := M) _ (after_blk hX) Tryz.underlying46 rfl (by rw [sM]; kernel_rfl) ?_); go_big_quiet_on; simp only [Act.put, List.setIfInBounds_toArray, List.set_cons_succ, List.set_cons_zero])
        | (go_big_quiet_step (first | (fail) | (go_at_call 9; exact quiet_after (hL _)) | (go_at_call 10; exact quiet_after (awake8_c _))); (try simp only [Bool.false_eq_true, ↓reduceIte])))
      refine wpQuiet_nil ?_
      rintro _ ⟨y, rfl⟩
      replace H := y.h
      go_wp2_with (first
        | (go_at_call 10; (with_reducible refine (awake8_c _).mono ?_); rintro e wN ⟨rfl, gN⟩; replace H := H.trans gN; clear gN))
      go_ret
      exact ⟨rfl, G1.out.trans H⟩
    · have c0 : decide ((5000 : Int) < (s.size : Int)) = false := decide_eq_false (by omega)
      have c1 : decide (5000 < s.size) = false := decide_eq_false h0
      have hs5 : Hid (s.size < 1000000) := by show _ < _; omega
      clear hms h0
      go_enter Tryz.func6, Tryz.ntmps6
      go_upto_region 1 with (fail)
      obtain ⟨w1, hw1⟩ : ∃ w1, w.alloc (.cells M 46) = w1 := ⟨_, rfl⟩
      rw [hw1] at hB G0 R ⊢
      have hX : w1.heap[w.heap.size]? = some (.cells M 46 (0, 0)) := hB
      have H : Wider w1 w1 := Wider.refl w1
      have G1 : Hid (Wider w w1) := G0
      clear G0 hB hw1
      refine wp_region_plain H ?_
      repeat (first
        | (go_big_quiet_want; (refine quiet_row 46 (.tmp 2) rfl w.heap.size rfl (C := M) _ (after_blk hX) Tryz.underlying46 rfl (by rw [sM]; kernel_rfl) ?_); go_big_quiet_on; simp only [Act.put, List.setIfInBounds_toArray, List.set_cons_succ, List.set_cons_zero])
        | (go_big_quiet_step (first | (fail) | (go_at_call 9; exact quiet_after (hL _)) | (go_at_call 10; exact quiet_after (awake8_c _))); (try simp only [Bool.false_eq_true, ↓reduceIte])))
      refine wpQuiet_nil ?_
      rintro _ ⟨y, rfl⟩
      replace H := y.h
      clear c0 c1
      go_wp2
      go_loopw [5] (fun i wr => ∃ k : Nat, k ≤ 8 ∧ i = .int .i64 (k : Int) ∧ Wider w1 wr) (fun i _ => 8 - (intOf i).toNat)
      case atStart => exact ⟨0, by omega, by simp, H⟩
      case round =>
        obtain ⟨k, hk, rfl, H0⟩ := hrel
        by_cases ck : k < 8
        · have j0 : (0 : Int) ≤ (k : Int) := by omega
          have j1 : (k : Int) < 8 := by omega
          have RX := R.on H0
          replace hX := wide_blk hX H0
          have HB := Lib.hid H0
          have H : Wider wr wr := Wider.refl wr
          obtain ⟨vs, c, hd, hw⟩ := read_ways k s
          have zs := fun W : World => readsA s W hs5.out k ck hd
          clear hd H0 R
          rcases put_ways k (V k) with ⟨ov, hb, hp⟩ | ⟨hb, hp⟩
          · replace hb := Lib.hid hb
            have ht := decG_enc (csKind k) (V k) ov (csKind_cap k) (by have := csKind_length k; omega)
            have hts := encG_small ov
            obtain ⟨T2, hT2⟩ : ∃ T2, encG (csKind k) (V k) = T2 := ⟨_, rfl⟩
            rw [hT2] at ht hts hp
            obtain ⟨r0, hr0⟩ : ∃ r0 : Nat, r0 = 0 := ⟨0, rfl⟩
            rw [← hr0] at ht
            have dr0 : ((r0 : Int) == 0) = true := by rw [hr0]; rfl
            have dr1 : ((r0 : Int) != 0) = false := by rw [hr0]; rfl
            have zt := fun W : World => readsA T2 W (by omega) k ck ht
            clear ht hts hT2 ov hr0
            go_upto_region 6 with (fail)
            refine wp_region_plain H ?_
            repeat (first
              | (go_big_quiet_want; (refine quiet_row 46 (.tmp 2) rfl w.heap.size rfl (C := M) _ (after_blk hX) Tryz.underlying46 rfl (by rw [sM]; kernel_rfl) ?_); go_big_quiet_on; simp only [Act.put, List.setIfInBounds_toArray, List.set_cons_succ, List.set_cons_zero])
              | (go_big_quiet_step (first | (fail) | (go_at_call 12; exact quiet_after ((RX.on (After.h _)).puts k ck hb.out hp))); (try simp only [Bool.false_eq_true, ↓reduceIte])))
            refine wpQuiet_nil ?_
            rintro _ ⟨y, rfl⟩
            replace H := y.h
            go_upto_region 11 with (first
              | (go_at_call 16; (with_reducible refine (zt _).mono ?_); rintro e wN ⟨Y, rfl, gN, RY, oY⟩; replace H := H.trans gN; clear gN; have sY := RY.size)
              | (with_reducible refine wpList_extract rfl (.tmp 45) 0 rfl rfl rfl ?_)
              | (with_reducible refine wpList_extract rfl (.tmp 45) 1 rfl rfl rfl ?_)
              | (with_reducible refine wpList_store_row rfl 46 (.tmp 9) (.tmp 49) rfl wN.heap.size Y rfl rfl 46 zM (heap_alloc_new wN _) (by rw [sY]; kernel_rfl) (by rw [sY]; exact zM_size) oY ?_))
            (try simp only [List.getElem?_cons_zero, Option.getD_some])
            have HS := (setRow_facts Y (heap_alloc_new wN (.cells zM 46))).1
            have hY := (setRow_facts Y (heap_alloc_new wN (.cells zM 46))).2
            have H2 := HS.wider (H.alloc _) (fun i m => by simp only [List.mem_singleton] at m; subst m; exact H.2)
            have H3 := HS.wider ((Wider.refl wN).alloc _) (fun i m => by simp only [List.mem_singleton] at m; subst m; exact Nat.le_refl _)
            replace RY := RY.on H3
            clear HS H3 oY
            obtain ⟨BY, hBe⟩ : ∃ B, wN.heap.size = B := ⟨_, rfl⟩
            obtain ⟨wY, hwS⟩ : ∃ wS, (wN.alloc (.cells zM 46)).setRow wN.heap.size Y = wS := ⟨_, rfl⟩
            rw [hwS] at hY H2 RY ⊢
            rw [hBe] at hY ⊢
            clear hwS hBe H
            replace RX := RX.on H2
            replace hX := wide_blk hX H2
            replace HB := Lib.hid (HB.out.trans H2)
            have H : Wider wY wY := Wider.refl _
            clear H2
            obtain ⟨L, hl8, sL, r8⟩ := all_c RX
            refine wp_region_prefix 24 H ?_
            simp only [List.take_succ_cons, List.take_zero, List.drop_succ_cons, List.drop_zero]
            (go_big_quiet_want; (refine quiet_field 46 (.tmp 2) 11 rfl w.heap.size 0 11 rfl (fieldM11 _) ?_); go_big_quiet_on; simp only [Act.put, List.setIfInBounds_toArray, List.set_cons_succ, List.set_cons_zero])
            (go_big_quiet_want; (refine quiet_load 27 (.tmp 51) rfl w.heap.size 11 9 20 rfl rfl (C := M) _ (after_blk hX) (by rw [sM]; decide) Tryz.underlying27 rfl (by kernel_rfl) ?_); go_big_quiet_on; simp only [Act.put, List.setIfInBounds_toArray, List.set_cons_succ, List.set_cons_zero])
            (go_big_quiet_want; (refine quiet_build 46 #[(11, .tmp 52)] rfl (ps := #[(11, .agg (M.extract 11 20))]) (by kernel_rfl) (fun _ => buildNode _ RX.r0.size) ?_); go_big_quiet_on; simp only [Act.put, List.setIfInBounds_toArray, List.set_cons_succ, List.set_cons_zero])
            (go_big_quiet_want; (refine quiet_field 46 (.tmp 2) 12 rfl w.heap.size 0 20 rfl (fieldM12 _) ?_); go_big_quiet_on; simp only [Act.put, List.setIfInBounds_toArray, List.set_cons_succ, List.set_cons_zero])
            (go_big_quiet_want; (refine quiet_load 29 (.tmp 54) rfl w.heap.size 20 5 25 rfl rfl (C := M) _ (after_blk hX) (by rw [sM]; decide) Tryz.underlying29 rfl (by kernel_rfl) ?_); go_big_quiet_on; simp only [Act.put, List.setIfInBounds_toArray, List.set_cons_succ, List.set_cons_zero])
            (go_big_quiet_want; (refine quiet_build 46 #[(12, .tmp 55)] rfl (ps := #[(12, .agg (M.extract 20 25))]) (by kernel_rfl) (fun _ => buildField _ RX.r1.size) ?_); go_big_quiet_on; simp only [Act.put, List.setIfInBounds_toArray, List.set_cons_succ, List.set_cons_zero])
            (go_big_quiet_want; (refine quiet_field 46 (.tmp 2) 13 rfl w.heap.size 0 25 rfl (fieldM13 _) ?_); go_big_quiet_on; simp only [Act.put, List.setIfInBounds_toArray, List.set_cons_succ, List.set_cons_zero])
            (go_big_quiet_want; (refine quiet_load 32 (.tmp 57) rfl w.heap.size 25 5 30 rfl rfl (C := M) _ (after_blk hX) (by rw [sM]; decide) Tryz.underlying32 rfl (by kernel_rfl) ?_); go_big_quiet_on; simp only [Act.put, List.setIfInBounds_toArray, List.set_cons_succ, List.set_cons_zero])
            (go_big_quiet_want; (refine quiet_build 46 #[(13, .tmp 58)] rfl (ps := #[(13, .agg (M.extract 25 30))]) (by kernel_rfl) (fun _ => buildTable _ RX.r2.size) ?_); go_big_quiet_on; simp only [Act.put, List.setIfInBounds_toArray, List.set_cons_succ, List.set_cons_zero])
            (go_big_quiet_want; (refine quiet_field 46 (.tmp 2) 14 rfl w.heap.size 0 30 rfl (fieldM14 _) ?_); go_big_quiet_on; simp only [Act.put, List.setIfInBounds_toArray, List.set_cons_succ, List.set_cons_zero])
            (go_big_quiet_want; (refine quiet_load 34 (.tmp 60) rfl w.heap.size 30 11 41 rfl rfl (C := M) _ (after_blk hX) (by rw [sM]; decide) Tryz.underlying34 rfl (by kernel_rfl) ?_); go_big_quiet_on; simp only [Act.put, List.setIfInBounds_toArray, List.set_cons_succ, List.set_cons_zero])
            (go_big_quiet_want; (refine quiet_build 46 #[(14, .tmp 61)] rfl (ps := #[(14, .agg (M.extract 30 41))]) (by kernel_rfl) (fun _ => buildEntry _ RX.r3.size) ?_); go_big_quiet_on; simp only [Act.put, List.setIfInBounds_toArray, List.set_cons_succ, List.set_cons_zero])
            (go_big_quiet_want; (refine quiet_field 46 (.tmp 2) 15 rfl w.heap.size 0 41 rfl (fieldM15 _) ?_); go_big_quiet_on; simp only [Act.put, List.setIfInBounds_toArray, List.set_cons_succ, List.set_cons_zero])
            (go_big_quiet_want; (refine quiet_load 37 (.tmp 63) rfl w.heap.size 41 2 43 rfl rfl (C := M) _ (after_blk hX) (by rw [sM]; decide) Tryz.underlying37 rfl (by kernel_rfl) ?_); go_big_quiet_on; simp only [Act.put, List.setIfInBounds_toArray, List.set_cons_succ, List.set_cons_zero])
            (go_big_quiet_want; (refine quiet_build 46 #[(15, .tmp 64)] rfl (ps := #[(15, .agg (M.extract 41 43))]) (by kernel_rfl) (fun _ => buildBlock _ RX.r4.size) ?_); go_big_quiet_on; simp only [Act.put, List.setIfInBounds_toArray, List.set_cons_succ, List.set_cons_zero])
            (go_big_quiet_want; (refine quiet_field 46 (.tmp 2) 16 rfl w.heap.size 0 43 rfl (fieldM16 _) ?_); go_big_quiet_on; simp only [Act.put, List.setIfInBounds_toArray, List.set_cons_succ, List.set_cons_zero])
            (go_big_quiet_want; (refine quiet_load 40 (.tmp 66) rfl w.heap.size 43 4 47 rfl rfl (C := M) _ (after_blk hX) (by rw [sM]; decide) Tryz.underlying40 rfl (by kernel_rfl) ?_); go_big_quiet_on; simp only [Act.put, List.setIfInBounds_toArray, List.set_cons_succ, List.set_cons_zero])
            (go_big_quiet_want; (refine quiet_build 46 #[(16, .tmp 67)] rfl (ps := #[(16, .agg (M.extract 43 47))]) (by kernel_rfl) (fun _ => buildGroup _ RX.r5.size) ?_); go_big_quiet_on; simp only [Act.put, List.setIfInBounds_toArray, List.set_cons_succ, List.set_cons_zero])
            (go_big_quiet_want; (refine quiet_field 46 (.tmp 2) 17 rfl w.heap.size 0 47 rfl (fieldM17 _) ?_); go_big_quiet_on; simp only [Act.put, List.setIfInBounds_toArray, List.set_cons_succ, List.set_cons_zero])
            (go_big_quiet_want; (refine quiet_load 42 (.tmp 69) rfl w.heap.size 47 3 50 rfl rfl (C := M) _ (after_blk hX) (by rw [sM]; decide) Tryz.underlying42 rfl (by kernel_rfl) ?_); go_big_quiet_on; simp only [Act.put, List.setIfInBounds_toArray, List.set_cons_succ, List.set_cons_zero])
            (go_big_quiet_want; (refine quiet_build 46 #[(17, .tmp 70)] rfl (ps := #[(17, .agg (M.extract 47 50))]) (by kernel_rfl) (fun _ => buildMeter _ RX.r6.size) ?_); go_big_quiet_on; simp only [Act.put, List.setIfInBounds_toArray, List.set_cons_succ, List.set_cons_zero])
            (go_big_quiet_want; (refine quiet_field 46 (.tmp 2) 18 rfl w.heap.size 0 50 rfl (fieldM18 _) ?_); go_big_quiet_on; simp only [Act.put, List.setIfInBounds_toArray, List.set_cons_succ, List.set_cons_zero])
            (go_big_quiet_want; (refine quiet_load 44 (.tmp 72) rfl w.heap.size 50 2 52 rfl rfl (C := M) _ (after_blk hX) (by rw [sM]; decide) Tryz.underlying44 rfl (by kernel_rfl) ?_); go_big_quiet_on; simp only [Act.put, List.setIfInBounds_toArray, List.set_cons_succ, List.set_cons_zero])
            (go_big_quiet_want; (refine quiet_build 46 #[(18, .tmp 73)] rfl (ps := #[(18, .agg (M.extract 50 52))]) (by kernel_rfl) (fun _ => buildRegs _ RX.r7.size) ?_); go_big_quiet_on; simp only [Act.put, List.setIfInBounds_toArray, List.set_cons_succ, List.set_cons_zero])
            refine wpQuiet_nil ?_
            rintro _ ⟨y4, rfl⟩
            replace H := y4.h
            refine wpList_buildSlice rfl 72 8 #[(0, .tmp 53), (1, .tmp 56), (2, .tmp 59), (3, .tmp 62), (4, .tmp 65), (5, .tmp 68), (6, .tmp 71), (7, .tmp 74)] rfl (ps := #[(0, .agg (setPart zM 11 (M.extract 11 20))), (1, .agg (setPart zM 20 (M.extract 20 25))), (2, .agg (setPart zM 25 (M.extract 25 30))), (3, .agg (setPart zM 30 (M.extract 30 41))), (4, .agg (setPart zM 41 (M.extract 41 43))), (5, .agg (setPart zM 43 (M.extract 43 47))), (6, .agg (setPart zM 47 (M.extract 47 50))), (7, .agg (setPart zM 50 (M.extract 50 52)))]) (by kernel_rfl) (hl8 _) ?_
            try simp only [Act.put, List.setIfInBounds_toArray, List.set_cons_succ, List.set_cons_zero]
            go_upto_region 12 with (fail)
            have hL := heap_alloc_new y4.w (.cells L 46)
            have H2 := H.alloc (.cells L 46)
            obtain ⟨BL, hBe⟩ : ∃ X, y4.w.heap.size = X := ⟨_, rfl⟩
            obtain ⟨wL, hwB⟩ : ∃ wB, y4.w.alloc (.cells L 46) = wB := ⟨_, rfl⟩
            rw [hwB] at hL H2 ⊢
            rw [hBe] at hL ⊢
            clear hwB hBe H
            replace RX := RX.on H2
            replace RY := RY.on H2
            replace hX := wide_blk hX H2
            replace hY := wide_blk hY H2
            replace HB := Lib.hid (HB.out.trans H2)
            have H : Wider wL wL := Wider.refl _
            clear H2 hl8
            have RL : RepA wL (L.extract (k * 52) (k * 52 + 52)) (oneV k (V k)) := r8 k ck _ RX
            have hss : true = true ↔ ∀ j, j < 8 → oneV k (V k) j = oneV k (V k) j := ⟨fun _ _ _ => rfl, fun _ => rfl⟩
            replace hss := Lib.hid hss
            clear r8
            refine wp_region_after (by kernel_rfl) (by kernel_rfl) H ?_
            (try simp only [Int.natCast_zero])
            repeat (first
              | (go_big_quiet_want; (refine quiet_row 46 (.tmp 9) rfl BY rfl (C := Y) _ (after_blk hY) Tryz.underlying46 rfl (by rw [sY]; kernel_rfl) ?_); go_big_quiet_on; simp only [Act.put, List.setIfInBounds_toArray, List.set_cons_succ, List.set_cons_zero])
              | (go_big_quiet_want; (refine quiet_load 46 (.tmp 82) rfl BL (k * 52) 52 (k * 52 + 52) rfl rfl (C := L) _ (after_blk hL) (by rw [sL]; omega) Tryz.underlying46 rfl (by kernel_rfl) ?_); go_big_quiet_on; simp only [Act.put, List.setIfInBounds_toArray, List.set_cons_succ, List.set_cons_zero])
              | (go_big_quiet_step (first | (fail) | (go_at_call 14; exact quiet_after (same_c _ (RY.on (After.h _)) (RL.on (After.h _)) hss.out))); (try simp only [Bool.false_eq_true, ↓reduceIte])))
            refine wpQuiet_nil ?_
            rintro _ ⟨y5, rfl⟩
            replace H := y5.h
            clear RX RL hX hL RY hY hss sL
            go_upto_region 15 with (first
              | (go_at_call 16; (with_reducible refine (zs _).mono ?_); rintro e wN ⟨Z, rfl, gN, RZ, oZ⟩; replace H := H.trans gN; clear gN; have sZ := RZ.size)
              | (with_reducible refine wpList_extract rfl (.tmp 87) 0 rfl rfl rfl ?_)
              | (with_reducible refine wpList_extract rfl (.tmp 87) 1 rfl rfl rfl ?_)
              | (with_reducible refine wpList_store_row rfl 46 (.tmp 12) (.tmp 91) rfl wN.heap.size Z rfl rfl 46 zM (heap_alloc_new wN _) (by rw [sZ]; kernel_rfl) (by rw [sZ]; exact zM_size) oZ ?_))
            (try simp only [List.getElem?_cons_zero, Option.getD_some])
            have HS := (setRow_facts Z (heap_alloc_new wN (.cells zM 46))).1
            have hZ := (setRow_facts Z (heap_alloc_new wN (.cells zM 46))).2
            have H2 := HS.wider (H.alloc _) (fun i m => by simp only [List.mem_singleton] at m; subst m; exact H.2)
            have H3 := HS.wider ((Wider.refl wN).alloc _) (fun i m => by simp only [List.mem_singleton] at m; subst m; exact Nat.le_refl _)
            replace RZ := RZ.on H3
            clear HS H3 oZ
            obtain ⟨BZ, hBe⟩ : ∃ B, wN.heap.size = B := ⟨_, rfl⟩
            obtain ⟨wZ, hwS⟩ : ∃ wS, (wN.alloc (.cells zM 46)).setRow wN.heap.size Z = wS := ⟨_, rfl⟩
            rw [hwS] at hZ H2 RZ ⊢
            rw [hBe] at hZ ⊢
            clear hwS hBe H
            replace HB := Lib.hid (HB.out.trans H2)
            have H : Wider wZ wZ := Wider.refl _
            clear H2
            rcases hw with ⟨rfl, og, eg⟩ | ⟨c0, rfl⟩
            · have zz : (true = true ↔ okG (csKind k) (oneV k vs k)) ∧ PutG (csKind k) (oneV k vs k) s 0 := by
                  rw [oneV_self]; have q := put_ok og; rwa [eg] at q
              replace zz := Lib.hid zz
              refine wp_region_plain H ?_
              repeat (first
                | (go_big_quiet_want; (refine quiet_row 46 (.tmp 12) rfl BZ rfl (C := Z) _ (after_blk hZ) Tryz.underlying46 rfl (by rw [sZ]; kernel_rfl) ?_); go_big_quiet_on; simp only [Act.put, List.setIfInBounds_toArray, List.set_cons_succ, List.set_cons_zero])
                | (go_big_quiet_step (first | (fail) | (go_at_call 12; exact quiet_after ((RZ.on (After.h _)).puts k ck zz.out.1 zz.out.2))); (try simp only [Bool.false_eq_true, ↓reduceIte])))
              refine wpQuiet_nil ?_
              rintro _ ⟨y6, rfl⟩
              replace H := y6.h
              go_upto_region 16 with (fail)
              refine wp_region_plain H ?_
              repeat (first
                | (go_big_quiet_want; (refine quiet_row 46 (.tmp 12) rfl BZ rfl (C := Z) _ (after_blk hZ) Tryz.underlying46 rfl (by rw [sZ]; kernel_rfl) ?_); go_big_quiet_on; simp only [Act.put, List.setIfInBounds_toArray, List.set_cons_succ, List.set_cons_zero])
                | (go_big_quiet_want; (refine quiet_build 46 #[] rfl (ps := #[]) rfl build0 ?_); go_big_quiet_on; simp only [Act.put, List.setIfInBounds_toArray, List.set_cons_succ, List.set_cons_zero])
                | (go_big_quiet_step (first | (fail)); (try simp only [Bool.false_eq_true, ↓reduceIte])))
              refine wpQuiet_nil ?_
              rintro _ ⟨y7, rfl⟩
              replace H := y7.h
              have HE := HB.out.trans H
              go_wp2
              go_roundw
              case rel => exact ⟨k + 1, by omega, by go_num, HE⟩
              case measure => simp [intOf]; omega
            · have zz : (true = true ↔ okG (csKind k) (oneV k (zeroG (csKind k)) k)) ∧ PutG (csKind k) (oneV k (zeroG (csKind k)) k) ⟨#[]⟩ 0 := by
                  rw [oneV_self]; have q := put_ok (okG_zero (csKind k)); rwa [encG_zero] at q
              have hz : true = true ↔ ∀ j, j < 8 → oneV k (zeroG (csKind k)) j = zV j := ⟨fun _ => (oneV_eq0 ck).2 rfl, fun _ => rfl⟩
              have d0 : ((c : Int) == 0) = false := by rw [beq_eq_false_iff_ne]; omega
              have d1 : ((c : Int) != 0) = true := by rw [bne_iff_ne]; omega
              replace zz := Lib.hid zz
              replace hz := Lib.hid hz
              refine wp_region_plain H ?_
              repeat (first
                | (go_big_quiet_want; (refine quiet_row 46 (.tmp 12) rfl BZ rfl (C := Z) _ (after_blk hZ) Tryz.underlying46 rfl (by rw [sZ]; kernel_rfl) ?_); go_big_quiet_on; simp only [Act.put, List.setIfInBounds_toArray, List.set_cons_succ, List.set_cons_zero])
                | (go_big_quiet_step (first | (fail) | (go_at_call 12; exact quiet_after ((RZ.on (After.h _)).puts k ck zz.out.1 zz.out.2))); (try simp only [Bool.false_eq_true, ↓reduceIte])))
              refine wpQuiet_nil ?_
              rintro _ ⟨y6, rfl⟩
              replace H := y6.h
              go_upto_region 16 with (fail)
              refine wp_region_plain H ?_
              repeat (first
                | (go_big_quiet_want; (refine quiet_row 46 (.tmp 12) rfl BZ rfl (C := Z) _ (after_blk hZ) Tryz.underlying46 rfl (by rw [sZ]; kernel_rfl) ?_); go_big_quiet_on; simp only [Act.put, List.setIfInBounds_toArray, List.set_cons_succ, List.set_cons_zero])
                | (go_big_quiet_want; (refine quiet_build 46 #[] rfl (ps := #[]) rfl build0 ?_); go_big_quiet_on; simp only [Act.put, List.setIfInBounds_toArray, List.set_cons_succ, List.set_cons_zero])
                | (go_big_quiet_step (first | (fail) | (go_at_call 14; exact quiet_after (same_c _ (RZ.on (After.h _)) (zM_rep _) hz.out))); (try simp only [Bool.false_eq_true, ↓reduceIte])))
              refine wpQuiet_nil ?_
              rintro _ ⟨y7, rfl⟩
              replace H := y7.h
              have HE := HB.out.trans H
              go_wp2
              go_roundw
              case rel => exact ⟨k + 1, by omega, by go_num, HE⟩
              case measure => simp [intOf]; omega
          · replace hb := Lib.hid hb
            go_upto_region 6 with (fail)
            refine wp_region_plain H ?_
            repeat (first
              | (go_big_quiet_want; (refine quiet_row 46 (.tmp 2) rfl w.heap.size rfl (C := M) _ (after_blk hX) Tryz.underlying46 rfl (by rw [sM]; kernel_rfl) ?_); go_big_quiet_on; simp only [Act.put, List.setIfInBounds_toArray, List.set_cons_succ, List.set_cons_zero])
              | (go_big_quiet_step (first | (fail) | (go_at_call 12; exact quiet_after ((RX.on (After.h _)).puts k ck hb.out hp))); (try simp only [Bool.false_eq_true, ↓reduceIte])))
            refine wpQuiet_nil ?_
            rintro _ ⟨y, rfl⟩
            replace H := y.h
            clear RX hX
            go_upto_region 15 with (first
              | (go_at_call 16; (with_reducible refine (zs _).mono ?_); rintro e wN ⟨Z, rfl, gN, RZ, oZ⟩; replace H := H.trans gN; clear gN; have sZ := RZ.size)
              | (with_reducible refine wpList_extract rfl (.tmp 87) 0 rfl rfl rfl ?_)
              | (with_reducible refine wpList_extract rfl (.tmp 87) 1 rfl rfl rfl ?_)
              | (with_reducible refine wpList_store_row rfl 46 (.tmp 12) (.tmp 91) rfl wN.heap.size Z rfl rfl 46 zM (heap_alloc_new wN _) (by rw [sZ]; kernel_rfl) (by rw [sZ]; exact zM_size) oZ ?_))
            (try simp only [List.getElem?_cons_zero, Option.getD_some])
            have HS := (setRow_facts Z (heap_alloc_new wN (.cells zM 46))).1
            have hZ := (setRow_facts Z (heap_alloc_new wN (.cells zM 46))).2
            have H2 := HS.wider (H.alloc _) (fun i m => by simp only [List.mem_singleton] at m; subst m; exact H.2)
            have H3 := HS.wider ((Wider.refl wN).alloc _) (fun i m => by simp only [List.mem_singleton] at m; subst m; exact Nat.le_refl _)
            replace RZ := RZ.on H3
            clear HS H3 oZ
            obtain ⟨BZ, hBe⟩ : ∃ B, wN.heap.size = B := ⟨_, rfl⟩
            obtain ⟨wZ, hwS⟩ : ∃ wS, (wN.alloc (.cells zM 46)).setRow wN.heap.size Z = wS := ⟨_, rfl⟩
            rw [hwS] at hZ H2 RZ ⊢
            rw [hBe] at hZ ⊢
            clear hwS hBe H
            replace HB := Lib.hid (HB.out.trans H2)
            have H : Wider wZ wZ := Wider.refl _
            clear H2
            rcases hw with ⟨rfl, og, eg⟩ | ⟨c0, rfl⟩
            · have zz : (true = true ↔ okG (csKind k) (oneV k vs k)) ∧ PutG (csKind k) (oneV k vs k) s 0 := by
                  rw [oneV_self]; have q := put_ok og; rwa [eg] at q
              replace zz := Lib.hid zz
              refine wp_region_plain H ?_
              repeat (first
                | (go_big_quiet_want; (refine quiet_row 46 (.tmp 12) rfl BZ rfl (C := Z) _ (after_blk hZ) Tryz.underlying46 rfl (by rw [sZ]; kernel_rfl) ?_); go_big_quiet_on; simp only [Act.put, List.setIfInBounds_toArray, List.set_cons_succ, List.set_cons_zero])
                | (go_big_quiet_step (first | (fail) | (go_at_call 12; exact quiet_after ((RZ.on (After.h _)).puts k ck zz.out.1 zz.out.2))); (try simp only [Bool.false_eq_true, ↓reduceIte])))
              refine wpQuiet_nil ?_
              rintro _ ⟨y6, rfl⟩
              replace H := y6.h
              go_upto_region 16 with (fail)
              refine wp_region_plain H ?_
              repeat (first
                | (go_big_quiet_want; (refine quiet_row 46 (.tmp 12) rfl BZ rfl (C := Z) _ (after_blk hZ) Tryz.underlying46 rfl (by rw [sZ]; kernel_rfl) ?_); go_big_quiet_on; simp only [Act.put, List.setIfInBounds_toArray, List.set_cons_succ, List.set_cons_zero])
                | (go_big_quiet_want; (refine quiet_build 46 #[] rfl (ps := #[]) rfl build0 ?_); go_big_quiet_on; simp only [Act.put, List.setIfInBounds_toArray, List.set_cons_succ, List.set_cons_zero])
                | (go_big_quiet_step (first | (fail)); (try simp only [Bool.false_eq_true, ↓reduceIte])))
              refine wpQuiet_nil ?_
              rintro _ ⟨y7, rfl⟩
              replace H := y7.h
              have HE := HB.out.trans H
              go_wp2
              go_roundw
              case rel => exact ⟨k + 1, by omega, by go_num, HE⟩
              case measure => simp [intOf]; omega
            · have zz : (true = true ↔ okG (csKind k) (oneV k (zeroG (csKind k)) k)) ∧ PutG (csKind k) (oneV k (zeroG (csKind k)) k) ⟨#[]⟩ 0 := by
                  rw [oneV_self]; have q := put_ok (okG_zero (csKind k)); rwa [encG_zero] at q
              have hz : true = true ↔ ∀ j, j < 8 → oneV k (zeroG (csKind k)) j = zV j := ⟨fun _ => (oneV_eq0 ck).2 rfl, fun _ => rfl⟩
              have d0 : ((c : Int) == 0) = false := by rw [beq_eq_false_iff_ne]; omega
              have d1 : ((c : Int) != 0) = true := by rw [bne_iff_ne]; omega
              replace zz := Lib.hid zz
              replace hz := Lib.hid hz
              refine wp_region_plain H ?_
              repeat (first
                | (go_big_quiet_want; (refine quiet_row 46 (.tmp 12) rfl BZ rfl (C := Z) _ (after_blk hZ) Tryz.underlying46 rfl (by rw [sZ]; kernel_rfl) ?_); go_big_quiet_on; simp only [Act.put, List.setIfInBounds_toArray, List.set_cons_succ, List.set_cons_zero])
                | (go_big_quiet_step (first | (fail) | (go_at_call 12; exact quiet_after ((RZ.on (After.h _)).puts k ck zz.out.1 zz.out.2))); (try simp only [Bool.false_eq_true, ↓reduceIte])))
              refine wpQuiet_nil ?_
              rintro _ ⟨y6, rfl⟩
              replace H := y6.h
              go_upto_region 16 with (fail)
              refine wp_region_plain H ?_
              repeat (first
                | (go_big_quiet_want; (refine quiet_row 46 (.tmp 12) rfl BZ rfl (C := Z) _ (after_blk hZ) Tryz.underlying46 rfl (by rw [sZ]; kernel_rfl) ?_); go_big_quiet_on; simp only [Act.put, List.setIfInBounds_toArray, List.set_cons_succ, List.set_cons_zero])
                | (go_big_quiet_want; (refine quiet_build 46 #[] rfl (ps := #[]) rfl build0 ?_); go_big_quiet_on; simp only [Act.put, List.setIfInBounds_toArray, List.set_cons_succ, List.set_cons_zero])
                | (go_big_quiet_step (first | (fail) | (go_at_call 14; exact quiet_after (same_c _ (RZ.on (After.h _)) (zM_rep _) hz.out))); (try simp only [Bool.false_eq_true, ↓reduceIte])))
              refine wpQuiet_nil ?_
              rintro _ ⟨y7, rfl⟩
              replace H := y7.h
              have HE := HB.out.trans H
              go_wp2
              go_roundw
              case rel => exact ⟨k + 1, by omega, by go_num, HE⟩
              case measure => simp [intOf]; omega
        · obtain rfl : k = 8 := by omega
          go_wp2
          go_ret
          exact ⟨rfl, G1.out.trans H0⟩
set_option maxRecDepth 100000 in
theorem objOne_lifted (os : Os) (started : os.Started) (H : Type) (enc : TypeId × Value → H) :
    ReturnsInHanded {} Tryz.checked os 6 .any (Rows.objOneSpec.pre6 enc Tryz.prog Tryz.f6 Rows.objOneRow.domain false) (Rows.objOneSpec.post enc Tryz.prog Tryz.f6 false true false false) := by
  refine returnsInHanded_of_change_sized (C := Tryz.checked) own started (by kernel_rfl) Tryz.func6
    (ChangeSpec.witness6 (enc := enc) (C := Tryz.checked) false ⟨#[], #[.agg #[.int .u8 0, .int .u32 0, .int .i64 0, .int .i64 0, .int .i64 0, .int .i64 0, .int .i64 0, .int .u64 0, .int .u64 0, .string ⟨#[]⟩, .slice none 0 0, .int .i64 0, .int .i64 0, .int .i64 0, .int .i64 0, .int .i64 0, .int .i64 0, .int .i64 0, .slice none 0 0, .int .i64 0, .int .i64 0, .int .u8 0, .int .i64 0, .int .i64 0, .int .i64 0, .int .i64 0, .int .u8 0, .slice none 0 0, .int .i64 0, .int .i64 0, .int .i64 0, .string ⟨#[]⟩, .string ⟨#[]⟩, .int .i64 0, .int .i64 0, .int .i64 0, .slice none 0 0, .int .i64 0, .int .i64 0, .int .u64 0, .bool false, .int .i64 0, .slice none 0 0, .int .i64 0, .int .u8 0, .int .i64 0, .slice none 0 0, .int .i64 0, .int .i64 0, .int .i64 0, .int .i64 0, .int .i64 0], .string ⟨#[]⟩], []⟩ 8 (by kernel_rfl) (by kernel_rfl) (by kernel_rfl) (by kernel_rfl)) ?_
  intro W base args ds gs before hval0 hW hcnd hsz _
  have hval : ∀ (j : Nat) t v, Tryz.f6.params[j]? = some t → args[j]? = some v → Value.okWide Tryz.prog W .any base t v := hval0
  have hW' := hW
  obtain ⟨p, q, hA0, hV, rfl, hfz, hnd⟩ := hW
  have hA : DataW.TrodAll enc Tryz.prog W 0 (fun _ => true) true Tryz.f6.params.toList args.toList ds p := hA0
  rw [Tryz.params6] at hA hval hsz
  obtain ⟨v0, vs0, d0, ds0, p0, q0, hargs, rfl, rfl, h0, r0⟩ := trodAll_cons hA
  obtain ⟨v1, vs1, d1, ds1, p1, q1, rfl, rfl, rfl, h1, r1⟩ := trodAll_cons r0
  obtain ⟨rfl, rfl, rfl⟩ := trodAll_nil r1
  obtain rfl : args = #[v0, v1] := by cases args; simp_all
  obtain ⟨rfl, rfl⟩ := trodVars_none hV
  have h0k := h0
  obtain ⟨x0, o0, rfl, f0⟩ := open_msg_few (hval 0 46 v0 rfl rfl) h0 hsz 0 rfl rfl
  obtain ⟨s1, rfl, rfl, rfl, w1⟩ := open_string Tryz.underlying9 (hval 1 9 v1 rfl rfl) h1
  clear hA0 hval0
  simp only [List.append_nil] at hW'
  refine (objOne_walk W x0 o0 f0 s1 w1).mono fun e W' ⟨he, hg⟩ => ?_
  subst he
  have hlt : ∀ x ∈ p0, x.block < W.heap.size := fun x hx => by simpa using hW'.lt x hx
  exact ⟨_, rfl, post_of_wider (pv := []) hW' (fun _ _ _ => (trodAll_cons_mk (shut_bool Tryz.underlying4 _) trodAll_mk0)) (fun sp hsp => (trodAll_cons_mk (WideElems.Trod_stays laid3 (by kernel_rfl) (of_decide_eq_true (by kernel_rfl)) h0k (fun x hx => wsame hg (hlt x (by simp [hx]))) (fun x hx => hsp x (by simp [hx]))) (trodAll_cons_mk (shut_string Tryz.underlying9 w1) trodAll_mk0))) (fun _ _ => rfl) (by simp)
    hg (ok_one (by kernel_rfl) rfl (okWide_bool_mk Tryz.underlying4 _))⟩

theorem objOne_holds : Rows.ObjOneSaid :=
  OpenClaim.holds_of_wide 6 Tryz.f6 rfl rfl rfl rfl rfl rfl rfl ⟨rfl, rfl, rfl, rfl, rfl⟩ rfl rfl rfl rfl rfl (by kernel_rfl) Tryz.func6 (by kernel_rfl)
    (of_decide_eq_true (by kernel_rfl)) (by unfold Func.isWrapper; first | (rw [if_pos (by decide +kernel)]; kernel_rfl) | (rw [if_neg (by decide +kernel)]; exact ⟨rfl, rfl⟩))
    (fun os started H enc _ => objOne_lifted os started H enc)

#print axioms objOne_holds

end Go.Proofs.YtlldgmdgogkdiaaGreat

