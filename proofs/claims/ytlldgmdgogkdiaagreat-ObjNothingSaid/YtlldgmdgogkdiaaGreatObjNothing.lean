/- The law ObjNothing: an object of which all is 0 has no bytes, and no bytes are that one; another one has some. No condition. -/
import Derived.Test.YtlldgmdgogkdiaaGreatOMsgIn
import Derived.Test.YtlldgmdgogkdiaaGreatOLit
import Derived.Test.YtlldgmdgogkdiaaGreatOSameM
import Derived.Test.YtlldgmdgogkdiaaGreatOAwake
import Derived.Test.YtlldgmdgogkdiaaGreatSOpen
import Derived.Test.YtlldgmdgogkdiaaGreatRows
import Derived.SizedLaws
namespace Go.Proofs.YtlldgmdgogkdiaaGreat
set_option linter.unusedVariables false
set_option maxRecDepth 20000
open Go.ChangeShapes Go.WideShapes Go.ChangeAt Go.RowKit Go.Joins
open Go.ChangeMaps (open_string shut_string)

set_option maxHeartbeats 16000000 in
theorem objNothing_walk (w : World) (x : MsgN) (o : x.Ok w) (f : x.Few) :
    Calls Tryz.prog 7 #[.agg x.cells.toArray] w fun e w' => e = .returned (.bool true) ∧ Wider w w' := by
  obtain ⟨b, hL, hS⟩ := MsgN.large o f
  obtain ⟨M, hM⟩ : ∃ M, x.cells.toArray = M := ⟨_, rfl⟩
  have sM : M.size = 52 := by rw [← hM]; rfl
  rw [hM] at hL hS ⊢
  clear hM o f
  have G0 := (Wider.refl w).alloc (.cells M 46)
  have hB := heap_alloc_new w (.cells M 46)
  cases b with
  | true =>
    go_enter Tryz.func7, Tryz.ntmps7
    go_upto_region 1 with (fail)
    obtain ⟨w1, hw1⟩ : ∃ w1, w.alloc (.cells M 46) = w1 := ⟨_, rfl⟩
    rw [hw1] at hB G0 ⊢
    have hX : ∀ W, Wider w1 W → W.heap[w.heap.size]? = some (.cells M 46 (0, 0)) := fun W g => wide_blk hB g
    have H : Wider w1 w1 := Wider.refl w1
    have G1 : Hid (Wider w w1) := G0
    clear G0 hB hw1
    go_wp2_with (first
      | (with_reducible refine wpList_load_row rfl 46 (.tmp 1) rfl w.heap.size rfl 46 M (0, 0) _ (hX _ H) Tryz.underlying46 rfl (by rw [sM]; kernel_rfl) ?_)
      | (go_at_call 9; (with_reducible refine (hL _).mono ?_); rintro e wN ⟨rfl, gN⟩; replace H := H.trans gN; clear gN)
      | (go_at_call 10; (with_reducible refine (awake8_c _).mono ?_); rintro e wN ⟨rfl, gN⟩; replace H := H.trans gN; clear gN))
    go_ret
    exact ⟨rfl, G1.out.trans H⟩
  | false =>
    obtain ⟨V, R⟩ := hS rfl
    replace R := R.on G0
    go_enter Tryz.func7, Tryz.ntmps7
    go_upto_region 1 with (fail)
    obtain ⟨w1, hw1⟩ : ∃ w1, w.alloc (.cells M 46) = w1 := ⟨_, rfl⟩
    rw [hw1] at hB G0 R ⊢
    have hX : ∀ W, Wider w1 W → W.heap[w.heap.size]? = some (.cells M 46 (0, 0)) := fun W g => wide_blk hB g
    have H : Wider w1 w1 := Wider.refl w1
    have G1 : Hid (Wider w w1) := G0
    clear G0 hB hw1
    go_wp2_with (first
      | (with_reducible refine wpList_load_row rfl 46 (.tmp 1) rfl w.heap.size rfl 46 M (0, 0) _ (hX _ H) Tryz.underlying46 rfl (by rw [sM]; kernel_rfl) ?_)
      | (go_at_call 9; (with_reducible refine (hL _).mono ?_); rintro e wN ⟨rfl, gN⟩; replace H := H.trans gN; clear gN)
      | (go_at_call 10; (with_reducible refine (awake8_c _).mono ?_); rintro e wN ⟨rfl, gN⟩; replace H := H.trans gN; clear gN))
    go_loopw [3] (fun i wr => ∃ k : Nat, k ≤ 8 ∧ i = .int .i64 (k : Int) ∧ Wider w1 wr) (fun i _ => 8 - (intOf i).toNat)
    case atStart => exact ⟨0, by omega, by simp, H⟩
    case round =>
      obtain ⟨k, hk, rfl, H⟩ := hrel
      by_cases ck : k < 8
      · have j0 : (0 : Int) ≤ (k : Int) := by omega
        have j1 : (k : Int) < 8 := by omega
        have hd : decG (csKind k) (⟨#[]⟩ : ByteArray).data.toList = (zeroG (csKind k), 0) := by
          have q := decG_enc (csKind k) (zeroG (csKind k)) (okG_zero _) (csKind_cap k) (by have := csKind_length k; omega)
          rwa [encG_zero] at q
        have hzz : (fun j => if j = k then zeroG (csKind k) else zeroG (csKind j)) = zV := by
          funext j
          by_cases c : j = k
          · rw [if_pos c, c]; rfl
          · rw [if_neg c]; rfl
        have zr := fun W : World => reads_c ⟨#[]⟩ W (by decide) k ck hd
        rw [hzz] at zr
        clear hd hzz
        obtain ⟨bk, hbk⟩ := some_bool2 (okG (csKind k) (V k))
        obtain ⟨T2, r2, hr2, hb2⟩ := putG_any hbk
        obtain ⟨q, hq⟩ := some_bool2 (V k = zV k)
        have hqq : q = true ↔ ∀ j, j < 8 → (if j = k then V k else zV j) = zV j := by
          rw [hq]
          constructor
          · intro h j _
            by_cases c : j = k
            · rw [if_pos c, c, h]
            · rw [if_neg c]
          · intro h
            have h2 := h k ck
            rwa [if_pos rfl] at h2
        have hT : bk = true → (q = true → T2 = ⟨#[]⟩) ∧ (q = false → T2.size ≠ 0) := by
          intro e
          rcases hr2 with ⟨g1, g2, g3⟩ | ⟨g1, g2, g3⟩
          · refine ⟨fun e2 => ?_, fun e2 e3 => ?_⟩
            · rw [g2, hq.1 e2]; exact encG_zero _
            · have e4 : encG (csKind k) (V k) = ⟨#[]⟩ := by rw [← g2]; exact empty_of _ e3
              have e5 := hq.2 (encG_empty (csKind k) (V k) g1 (csKind_cap k) (by have := csKind_length k; omega) e4)
              rw [e2] at e5; cases e5
          · exact absurd (hbk.1 e) g1
        clear hb2 hq
        go_upto_region 7 with (first
          | (go_at_call 16; (with_reducible refine (zr _).mono ?_); rintro e wN ⟨Y, rfl, gN, hY, oY⟩; replace H := H.trans gN; clear gN; have RY := hY.parts; have sY := RY.size; have oY2 : Y.all (·.oneCell') = true := oY; clear hY)
          | (with_reducible refine wpList_store_row rfl 46 (.tmp 4) (.tmp 24) rfl wN.heap.size Y rfl rfl 46 zM (heap_alloc_new wN _) (by rw [sY]; kernel_rfl) (by rw [sY]; exact zM_size) oY2 ?_))
        have HS := (setRow_facts Y (heap_alloc_new wN (.cells zM 46))).1
        have hYb := (setRow_facts Y (heap_alloc_new wN (.cells zM 46))).2
        have H2 := HS.wider (H.alloc _) (fun i m => by simp only [List.mem_singleton] at m; subst m; exact H.2)
        have H3 := HS.wider ((Wider.refl wN).alloc _) (fun i m => by simp only [List.mem_singleton] at m; subst m; exact Nat.le_refl _)
        replace RY := RY.on H3
        clear zr HS H3 oY oY2
        obtain ⟨B, hBe⟩ : ∃ B, wN.heap.size = B := ⟨_, rfl⟩
        obtain ⟨wS, hwS⟩ : ∃ wS, (wN.alloc (.cells zM 46)).setRow wN.heap.size Y = wS := ⟨_, rfl⟩
        rw [hwS] at hYb H2 RY ⊢
        rw [hBe] at hYb ⊢
        clear hwS hBe H
        have RS := R.on H2
        have kX := after_blk (hX _ H2)
        have kY := after_blk hYb
        have H : Wider wS wS := Wider.refl wS
        have ho : true = true ↔ okG (csKind k) (zV k) := ⟨fun _ => okG_zero _, fun _ => rfl⟩
        have hp : PutG (csKind k) (zV k) ⟨#[]⟩ 0 := .inl ⟨okG_zero _, (encG_zero _).symm, rfl⟩
        have hst : true = true ↔ ∀ j, j < 8 → zV j = zV j := ⟨fun _ _ _ => rfl, fun _ => rfl⟩
        refine wp_region_plain H ?_
        repeat (first
          | (go_big_quiet_want; (refine quiet_row 46 (.tmp 4) rfl B rfl (C := Y) _ kY Tryz.underlying46 rfl (by rw [sY]; kernel_rfl) ?_); go_big_quiet_on; simp only [Act.put, List.setIfInBounds_toArray, List.set_cons_succ, List.set_cons_zero])
          | (go_big_quiet_step (first | (fail) | (go_at_call 12; exact quiet_after ((RY.on (After.h _)).puts k ck ho hp))); (try simp only [Bool.false_eq_true, ↓reduceIte])))
        refine wpQuiet_nil ?_
        rintro _ ⟨y, rfl⟩
        replace H := y.h
        go_upto_region 8 with (fail)
        refine wp_region_plain H ?_
        repeat (first
          | (go_big_quiet_want; (refine quiet_row 46 (.tmp 4) rfl B rfl (C := Y) _ kY Tryz.underlying46 rfl (by rw [sY]; kernel_rfl) ?_); go_big_quiet_on; simp only [Act.put, List.setIfInBounds_toArray, List.set_cons_succ, List.set_cons_zero])
          | (go_big_quiet_want; (refine quiet_build 46 #[] rfl (ps := #[]) rfl build0 ?_); go_big_quiet_on; simp only [Act.put, List.setIfInBounds_toArray, List.set_cons_succ, List.set_cons_zero])
          | (go_big_quiet_step (first | (fail) | (go_at_call 14; exact quiet_after (same_c _ (RY.on (After.h _)) (zM_rep _) hst))); (try simp only [Bool.false_eq_true, ↓reduceIte])))
        refine wpQuiet_nil ?_
        rintro _ ⟨y2, rfl⟩
        replace H := y2.h
        go_upto_region 10 with (fail)
        refine wp_region_plain H ?_
        repeat (first
          | (go_big_quiet_want; (refine quiet_row 46 (.tmp 1) rfl w.heap.size rfl (C := M) _ kX Tryz.underlying46 rfl (by rw [sM]; kernel_rfl) ?_); go_big_quiet_on; simp only [Act.put, List.setIfInBounds_toArray, List.set_cons_succ, List.set_cons_zero])
          | (go_big_quiet_step (first | (fail) | (go_at_call 12; exact quiet_after ((RS.on (After.h _)).puts k ck hbk hr2))); (try simp only [Bool.false_eq_true, ↓reduceIte])))
        refine wpQuiet_nil ?_
        rintro _ ⟨y3, rfl⟩
        replace H := y3.h
        obtain ⟨wA, hwA⟩ : ∃ wA, y3.w = wA := ⟨_, rfl⟩
        rw [hwA] at H ⊢
        clear hwA
        obtain ⟨L, hL8, sL, rL⟩ := all_c RS
        have kM := kX _ ⟨⟨_, H⟩, rfl⟩
        go_upto_region 11 with (fail)
        refine wp_region_prefix 24 H ?_
        simp only [List.take_succ_cons, List.take_zero, List.drop_succ_cons, List.drop_zero]
        (go_big_quiet_want; (refine quiet_field 46 (.tmp 1) 11 rfl w.heap.size 0 11 rfl (fieldM11 _) ?_); go_big_quiet_on; simp only [Act.put, List.setIfInBounds_toArray, List.set_cons_succ, List.set_cons_zero])
        (go_big_quiet_want; (refine quiet_load 27 (.tmp 60) rfl w.heap.size 11 9 20 rfl rfl (C := M) _ kX (by rw [sM]; decide) Tryz.underlying27 rfl (by kernel_rfl) ?_); go_big_quiet_on; simp only [Act.put, List.setIfInBounds_toArray, List.set_cons_succ, List.set_cons_zero])
        (go_big_quiet_want; (refine quiet_build 46 #[(11, .tmp 61)] rfl (ps := #[(11, .agg (M.extract 11 20))]) (by kernel_rfl) (fun _ => buildNode _ RS.r0.size) ?_); go_big_quiet_on; simp only [Act.put, List.setIfInBounds_toArray, List.set_cons_succ, List.set_cons_zero])
        (go_big_quiet_want; (refine quiet_field 46 (.tmp 1) 12 rfl w.heap.size 0 20 rfl (fieldM12 _) ?_); go_big_quiet_on; simp only [Act.put, List.setIfInBounds_toArray, List.set_cons_succ, List.set_cons_zero])
        (go_big_quiet_want; (refine quiet_load 29 (.tmp 63) rfl w.heap.size 20 5 25 rfl rfl (C := M) _ kX (by rw [sM]; decide) Tryz.underlying29 rfl (by kernel_rfl) ?_); go_big_quiet_on; simp only [Act.put, List.setIfInBounds_toArray, List.set_cons_succ, List.set_cons_zero])
        (go_big_quiet_want; (refine quiet_build 46 #[(12, .tmp 64)] rfl (ps := #[(12, .agg (M.extract 20 25))]) (by kernel_rfl) (fun _ => buildField _ RS.r1.size) ?_); go_big_quiet_on; simp only [Act.put, List.setIfInBounds_toArray, List.set_cons_succ, List.set_cons_zero])
        (go_big_quiet_want; (refine quiet_field 46 (.tmp 1) 13 rfl w.heap.size 0 25 rfl (fieldM13 _) ?_); go_big_quiet_on; simp only [Act.put, List.setIfInBounds_toArray, List.set_cons_succ, List.set_cons_zero])
        (go_big_quiet_want; (refine quiet_load 32 (.tmp 66) rfl w.heap.size 25 5 30 rfl rfl (C := M) _ kX (by rw [sM]; decide) Tryz.underlying32 rfl (by kernel_rfl) ?_); go_big_quiet_on; simp only [Act.put, List.setIfInBounds_toArray, List.set_cons_succ, List.set_cons_zero])
        (go_big_quiet_want; (refine quiet_build 46 #[(13, .tmp 67)] rfl (ps := #[(13, .agg (M.extract 25 30))]) (by kernel_rfl) (fun _ => buildTable _ RS.r2.size) ?_); go_big_quiet_on; simp only [Act.put, List.setIfInBounds_toArray, List.set_cons_succ, List.set_cons_zero])
        (go_big_quiet_want; (refine quiet_field 46 (.tmp 1) 14 rfl w.heap.size 0 30 rfl (fieldM14 _) ?_); go_big_quiet_on; simp only [Act.put, List.setIfInBounds_toArray, List.set_cons_succ, List.set_cons_zero])
        (go_big_quiet_want; (refine quiet_load 34 (.tmp 69) rfl w.heap.size 30 11 41 rfl rfl (C := M) _ kX (by rw [sM]; decide) Tryz.underlying34 rfl (by kernel_rfl) ?_); go_big_quiet_on; simp only [Act.put, List.setIfInBounds_toArray, List.set_cons_succ, List.set_cons_zero])
        (go_big_quiet_want; (refine quiet_build 46 #[(14, .tmp 70)] rfl (ps := #[(14, .agg (M.extract 30 41))]) (by kernel_rfl) (fun _ => buildEntry _ RS.r3.size) ?_); go_big_quiet_on; simp only [Act.put, List.setIfInBounds_toArray, List.set_cons_succ, List.set_cons_zero])
        (go_big_quiet_want; (refine quiet_field 46 (.tmp 1) 15 rfl w.heap.size 0 41 rfl (fieldM15 _) ?_); go_big_quiet_on; simp only [Act.put, List.setIfInBounds_toArray, List.set_cons_succ, List.set_cons_zero])
        (go_big_quiet_want; (refine quiet_load 37 (.tmp 72) rfl w.heap.size 41 2 43 rfl rfl (C := M) _ kX (by rw [sM]; decide) Tryz.underlying37 rfl (by kernel_rfl) ?_); go_big_quiet_on; simp only [Act.put, List.setIfInBounds_toArray, List.set_cons_succ, List.set_cons_zero])
        (go_big_quiet_want; (refine quiet_build 46 #[(15, .tmp 73)] rfl (ps := #[(15, .agg (M.extract 41 43))]) (by kernel_rfl) (fun _ => buildBlock _ RS.r4.size) ?_); go_big_quiet_on; simp only [Act.put, List.setIfInBounds_toArray, List.set_cons_succ, List.set_cons_zero])
        (go_big_quiet_want; (refine quiet_field 46 (.tmp 1) 16 rfl w.heap.size 0 43 rfl (fieldM16 _) ?_); go_big_quiet_on; simp only [Act.put, List.setIfInBounds_toArray, List.set_cons_succ, List.set_cons_zero])
        (go_big_quiet_want; (refine quiet_load 40 (.tmp 75) rfl w.heap.size 43 4 47 rfl rfl (C := M) _ kX (by rw [sM]; decide) Tryz.underlying40 rfl (by kernel_rfl) ?_); go_big_quiet_on; simp only [Act.put, List.setIfInBounds_toArray, List.set_cons_succ, List.set_cons_zero])
        (go_big_quiet_want; (refine quiet_build 46 #[(16, .tmp 76)] rfl (ps := #[(16, .agg (M.extract 43 47))]) (by kernel_rfl) (fun _ => buildGroup _ RS.r5.size) ?_); go_big_quiet_on; simp only [Act.put, List.setIfInBounds_toArray, List.set_cons_succ, List.set_cons_zero])
        (go_big_quiet_want; (refine quiet_field 46 (.tmp 1) 17 rfl w.heap.size 0 47 rfl (fieldM17 _) ?_); go_big_quiet_on; simp only [Act.put, List.setIfInBounds_toArray, List.set_cons_succ, List.set_cons_zero])
        (go_big_quiet_want; (refine quiet_load 42 (.tmp 78) rfl w.heap.size 47 3 50 rfl rfl (C := M) _ kX (by rw [sM]; decide) Tryz.underlying42 rfl (by kernel_rfl) ?_); go_big_quiet_on; simp only [Act.put, List.setIfInBounds_toArray, List.set_cons_succ, List.set_cons_zero])
        (go_big_quiet_want; (refine quiet_build 46 #[(17, .tmp 79)] rfl (ps := #[(17, .agg (M.extract 47 50))]) (by kernel_rfl) (fun _ => buildMeter _ RS.r6.size) ?_); go_big_quiet_on; simp only [Act.put, List.setIfInBounds_toArray, List.set_cons_succ, List.set_cons_zero])
        (go_big_quiet_want; (refine quiet_field 46 (.tmp 1) 18 rfl w.heap.size 0 50 rfl (fieldM18 _) ?_); go_big_quiet_on; simp only [Act.put, List.setIfInBounds_toArray, List.set_cons_succ, List.set_cons_zero])
        (go_big_quiet_want; (refine quiet_load 44 (.tmp 81) rfl w.heap.size 50 2 52 rfl rfl (C := M) _ kX (by rw [sM]; decide) Tryz.underlying44 rfl (by kernel_rfl) ?_); go_big_quiet_on; simp only [Act.put, List.setIfInBounds_toArray, List.set_cons_succ, List.set_cons_zero])
        (go_big_quiet_want; (refine quiet_build 46 #[(18, .tmp 82)] rfl (ps := #[(18, .agg (M.extract 50 52))]) (by kernel_rfl) (fun _ => buildRegs _ RS.r7.size) ?_); go_big_quiet_on; simp only [Act.put, List.setIfInBounds_toArray, List.set_cons_succ, List.set_cons_zero])
        refine wpQuiet_nil ?_
        rintro _ ⟨y4, rfl⟩
        replace H := y4.h
        refine wpList_buildSlice rfl 72 8 #[(0, .tmp 62), (1, .tmp 65), (2, .tmp 68), (3, .tmp 71), (4, .tmp 74), (5, .tmp 77), (6, .tmp 80), (7, .tmp 83)] rfl (ps := #[(0, .agg (setPart zM 11 (M.extract 11 20))), (1, .agg (setPart zM 20 (M.extract 20 25))), (2, .agg (setPart zM 25 (M.extract 25 30))), (3, .agg (setPart zM 30 (M.extract 30 41))), (4, .agg (setPart zM 41 (M.extract 41 43))), (5, .agg (setPart zM 43 (M.extract 43 47))), (6, .agg (setPart zM 47 (M.extract 47 50))), (7, .agg (setPart zM 50 (M.extract 50 52)))]) (by kernel_rfl) (hL8 _) ?_
        try simp only [Act.put, List.setIfInBounds_toArray, List.set_cons_succ, List.set_cons_zero]
        go_upto_region 12 with (fail)
        have hLb := heap_alloc_new y4.w (.cells L 46)
        have HB := H.alloc (.cells L 46)
        obtain ⟨X, hXe⟩ : ∃ X, y4.w.heap.size = X := ⟨_, rfl⟩
        obtain ⟨wB, hwB⟩ : ∃ wB, y4.w.alloc (.cells L 46) = wB := ⟨_, rfl⟩
        rw [hwB] at hLb HB ⊢
        rw [hXe] at hLb ⊢
        clear hwB hXe H
        have kL := after_blk hLb
        have RL := rL k ck wB (RS.on HB)
        have HF := Lib.hid (G1.out.trans (H2.trans HB))
        have HG := Lib.hid (H2.trans HB)
        have H : Wider wB wB := Wider.refl wB
        clear H2 hLb RS RY kX kY
        have HT := Lib.hid hT
        clear hT hr2 hbk
        have fin : ∀ W, Wider wB W → Wider w1 W := fun W g => HG.out.trans g
        clear HG
        cases bk with
        | false =>
          refine wp_region_plain H ?_
          repeat (first
            | (go_big_quiet_want; (refine quiet_load 46 (.tmp 91) rfl X (k * 52) 52 (k * 52 + 52) rfl rfl (C := L) _ kL (by rw [sL]; omega) Tryz.underlying46 rfl (by kernel_rfl) ?_); go_big_quiet_on; simp only [Act.put, List.setIfInBounds_toArray, List.set_cons_succ, List.set_cons_zero])
            | (go_big_quiet_want; (refine quiet_build 46 #[] rfl (ps := #[]) rfl build0 ?_); go_big_quiet_on; simp only [Act.put, List.setIfInBounds_toArray, List.set_cons_succ, List.set_cons_zero])
            | (go_big_quiet_step (first | (fail) | (go_at_call 14; exact quiet_after (same_c _ (RL.on (After.h _)) (zM_rep _) hqq))); (try simp only [Bool.false_eq_true, ↓reduceIte])))
          refine wpQuiet_nil ?_
          rintro _ ⟨y5, rfl⟩
          replace H := y5.h
          go_wp2
          go_roundw
          case rel => exact ⟨k + 1, by omega, by go_num, fin _ H⟩
          case measure => simp [intOf]; omega
        | true =>
          cases q with
          | true =>
            obtain rfl := (HT.out rfl).1 rfl
            trace_state
            refine wp_region_plain H ?_
            repeat (first
              | (go_big_quiet_want; (refine quiet_load 46 (.tmp 91) rfl X (k * 52) 52 (k * 52 + 52) rfl rfl (C := L) _ kL (by rw [sL]; omega) Tryz.underlying46 rfl (by kernel_rfl) ?_); go_big_quiet_on; simp only [Act.put, List.setIfInBounds_toArray, List.set_cons_succ, List.set_cons_zero])
              | (go_big_quiet_want; (refine quiet_build 46 #[] rfl (ps := #[]) rfl build0 ?_); go_big_quiet_on; simp only [Act.put, List.setIfInBounds_toArray, List.set_cons_succ, List.set_cons_zero])
              | (go_big_quiet_step (first | (fail) | (go_at_call 14; exact quiet_after (same_c _ (RL.on (After.h _)) (zM_rep _) hqq))); (try simp only [Bool.false_eq_true, ↓reduceIte])))
            refine wpQuiet_nil ?_
            rintro _ ⟨y5, rfl⟩
            replace H := y5.h
            go_wp2
            go_roundw
            case rel => exact ⟨k + 1, by omega, by go_num, fin _ H⟩
            case measure => simp [intOf]; omega
          | false =>
            obtain ⟨e1, e2⟩ := ne_empty T2 ((HT.out rfl).2 rfl)
            refine wp_region_plain H ?_
            repeat (first
              | (go_big_quiet_want; (refine quiet_load 46 (.tmp 91) rfl X (k * 52) 52 (k * 52 + 52) rfl rfl (C := L) _ kL (by rw [sL]; omega) Tryz.underlying46 rfl (by kernel_rfl) ?_); go_big_quiet_on; simp only [Act.put, List.setIfInBounds_toArray, List.set_cons_succ, List.set_cons_zero])
              | (go_big_quiet_want; (refine quiet_build 46 #[] rfl (ps := #[]) rfl build0 ?_); go_big_quiet_on; simp only [Act.put, List.setIfInBounds_toArray, List.set_cons_succ, List.set_cons_zero])
              | (go_big_quiet_step (first | (fail) | (go_at_call 14; exact quiet_after (same_c _ (RL.on (After.h _)) (zM_rep _) hqq))); (try simp only [Bool.false_eq_true, ↓reduceIte])))
            refine wpQuiet_nil ?_
            rintro _ ⟨y5, rfl⟩
            replace H := y5.h
            go_wp2
            go_roundw
            case rel => exact ⟨k + 1, by omega, by go_num, fin _ H⟩
            case measure => simp [intOf]; omega
      · obtain rfl : k = 8 := by omega
        go_wp2
        go_ret
        exact ⟨rfl, G1.out.trans H⟩
set_option maxRecDepth 100000 in
theorem objNothing_lifted (os : Os) (started : os.Started) (H : Type) (enc : TypeId × Value → H) :
    ReturnsInHanded {} Tryz.checked os 7 .any (Rows.objNothingSpec.pre6 enc Tryz.prog Tryz.f7 Rows.objNothingRow.domain false) (Rows.objNothingSpec.post enc Tryz.prog Tryz.f7 false true false false) := by
  refine returnsInHanded_of_change_sized (C := Tryz.checked) own started (by kernel_rfl) Tryz.func7
    (ChangeSpec.witness6 (enc := enc) (C := Tryz.checked) false ⟨#[], #[.agg #[.int .u8 0, .int .u32 0, .int .i64 0, .int .i64 0, .int .i64 0, .int .i64 0, .int .i64 0, .int .u64 0, .int .u64 0, .string ⟨#[]⟩, .slice none 0 0, .int .i64 0, .int .i64 0, .int .i64 0, .int .i64 0, .int .i64 0, .int .i64 0, .int .i64 0, .slice none 0 0, .int .i64 0, .int .i64 0, .int .u8 0, .int .i64 0, .int .i64 0, .int .i64 0, .int .i64 0, .int .u8 0, .slice none 0 0, .int .i64 0, .int .i64 0, .int .i64 0, .string ⟨#[]⟩, .string ⟨#[]⟩, .int .i64 0, .int .i64 0, .int .i64 0, .slice none 0 0, .int .i64 0, .int .i64 0, .int .u64 0, .bool false, .int .i64 0, .slice none 0 0, .int .i64 0, .int .u8 0, .int .i64 0, .slice none 0 0, .int .i64 0, .int .i64 0, .int .i64 0, .int .i64 0, .int .i64 0]], []⟩ 8 (by kernel_rfl) (by kernel_rfl) (by kernel_rfl) (by kernel_rfl)) ?_
  intro W base args ds gs before hval0 hW hcnd hsz _
  have hval : ∀ (j : Nat) t v, Tryz.f7.params[j]? = some t → args[j]? = some v → Value.okWide Tryz.prog W .any base t v := hval0
  have hW' := hW
  obtain ⟨p, q, hA0, hV, rfl, hfz, hnd⟩ := hW
  have hA : DataW.TrodAll enc Tryz.prog W 0 (fun _ => true) true Tryz.f7.params.toList args.toList ds p := hA0
  rw [Tryz.params7] at hA hval hsz
  obtain ⟨v0, vs0, d0, ds0, p0, q0, hargs, rfl, rfl, h0, r0⟩ := trodAll_cons hA
  obtain ⟨rfl, rfl, rfl⟩ := trodAll_nil r0
  obtain rfl : args = #[v0] := by cases args; simp_all
  obtain ⟨rfl, rfl⟩ := trodVars_none hV
  have h0k := h0
  obtain ⟨x0, o0, rfl, f0⟩ := open_msg_few (hval 0 46 v0 rfl rfl) h0 hsz 0 rfl rfl
  clear hA0 hval0
  simp only [List.append_nil] at hW'
  refine (objNothing_walk W x0 o0 f0).mono fun e W' ⟨he, hg⟩ => ?_
  subst he
  have hlt : ∀ x ∈ p0, x.block < W.heap.size := fun x hx => by simpa using hW'.lt x hx
  exact ⟨_, rfl, post_of_wider (pv := []) hW' (fun _ _ _ => (trodAll_cons_mk (shut_bool Tryz.underlying4 _) trodAll_mk0)) (fun sp hsp => (trodAll_cons_mk (WideElems.Trod_stays laid3 (by kernel_rfl) (of_decide_eq_true (by kernel_rfl)) h0k (fun x hx => wsame hg (hlt x (by simp [hx]))) (fun x hx => hsp x (by simp [hx]))) trodAll_mk0)) (fun _ _ => rfl) (by simp)
    hg (ok_one (by kernel_rfl) rfl (okWide_bool_mk Tryz.underlying4 _))⟩

theorem objNothing_holds : Rows.ObjNothingSaid :=
  OpenClaim.holds_of_wide 7 Tryz.f7 rfl rfl rfl rfl rfl rfl rfl ⟨rfl, rfl, rfl, rfl, rfl⟩ rfl rfl rfl rfl rfl (by kernel_rfl) Tryz.func7 (by kernel_rfl)
    (of_decide_eq_true (by kernel_rfl)) (by unfold Func.isWrapper; first | (rw [if_pos (by decide +kernel)]; kernel_rfl) | (rw [if_neg (by decide +kernel)]; exact ⟨rfl, rfl⟩))
    (fun os started H enc _ => objNothing_lifted os started H enc)

#print axioms objNothing_holds

end Go.Proofs.YtlldgmdgogkdiaaGreat

