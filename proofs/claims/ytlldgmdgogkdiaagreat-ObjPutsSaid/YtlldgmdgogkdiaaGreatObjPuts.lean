/- The law ObjPuts: whether any object may be said, and its bytes, are the document's, or it is refused; what is handed in stays. No condition. -/
import Derived.Test.YtlldgmdgogkdiaaGreatOOwn
import Derived.Test.YtlldgmdgogkdiaaGreatOMustM
import Derived.SizedLaws
namespace Go.Proofs.YtlldgmdgogkdiaaGreat
set_option linter.unusedVariables false
set_option maxRecDepth 20000
open Go.ChangeShapes Go.WideShapes Go.ChangeAt Go.RowKit Go.Joins
open Go.ChangeMaps (open_string shut_string)

theorem RepA.must {w : World} {M : Array Value} {V : Nat → List ValN} (h : RepA w M V) (k : Nat) (hk : k < 8) {b : Bool} (hb : b = true ↔ okG (csKind k) (V k)) {T : ByteArray} {r : Nat} (hr : PutG (csKind k) (V k) T r) :
    Calls Tryz.prog 13 #[.agg M, .int .i64 (k : Int)] w fun e w' => e = .returned (.tuple #[.bool b, .string T, .int .i64 (r : Int)]) ∧ Wider w w' := by
  obtain ⟨a0, a1, a2, a3, a4, a5, a6, a7, a8, a9, a10, a11, a12, a13, a14, a15, a16, a17, a18, a19, a20, a21, a22, a23, a24, a25, a26, a27, a28, a29, a30, a31, a32, a33, a34, a35, a36, a37, a38, a39, a40, a41, a42, a43, a44, a45, a46, a47, a48, a49, a50, a51, rfl, R0, R1, R2, R3, R4, R5, R6, R7⟩ := h.msg
  exact must_c w R0 R1 R2 R3 R4 R5 R6 R7 k hk hb hr
theorem MsgN.one (x : MsgN) : x.cells.toArray.all (·.oneCell') = true := by
  simp [MsgN.cells, NodeN.cells, FieldN.cells, TableN.cells, EntryN.cells, BlockN.cells, GroupN.cells, MeterN.cells, RegsN.cells, Value.oneCell']
set_option maxHeartbeats 16000000 in
theorem objPuts_walk (w : World) (x : MsgN) (o : x.Ok w) (f : x.Few) :
    Calls Tryz.prog 3 #[.agg x.cells.toArray] w fun e w' => e = .returned (.bool true) ∧ Wider w w' := by
  obtain ⟨b, hL, hS⟩ := MsgN.large o f
  have o0 := MsgN.one x
  obtain ⟨M, hM⟩ : ∃ M, x.cells.toArray = M := ⟨_, rfl⟩
  have sM : M.size = 52 := by rw [← hM]; rfl
  rw [hM] at hL hS o0 ⊢
  clear hM o f
  have G0 := (Wider.refl w).alloc (.cells M 46)
  have hB := heap_alloc_new w (.cells M 46)
  cases b with
  | true =>
    go_enter Tryz.func3, Tryz.ntmps3
    go_upto_region 1 with (fail)
    obtain ⟨w1, hw1⟩ : ∃ w1, w.alloc (.cells M 46) = w1 := ⟨_, rfl⟩
    rw [hw1] at hB G0 ⊢
    have hX : w1.heap[w.heap.size]? = some (.cells M 46 (0, 0)) := hB
    have H : Wider w1 w1 := Wider.refl w1
    have G1 : Hid (Wider w w1) := G0
    clear G0 hB hw1
    refine wp_region_plain H ?_
    repeat (first
      | (go_big_quiet_want; (refine quiet_row 46 (.tmp 1) rfl w.heap.size rfl (C := M) _ (after_blk hX) Tryz.underlying46 rfl (by rw [sM]; kernel_rfl) ?_); go_big_quiet_on; simp only [Act.put, List.setIfInBounds_toArray, List.set_cons_succ, List.set_cons_zero])
      | (go_big_quiet_step (first | (fail) | (go_at_call 9; exact quiet_after (hL _)) | (go_at_call 10; exact quiet_after (awake8_c _))); (try simp only [Bool.false_eq_true, ↓reduceIte])))
    refine wpQuiet_nil ?_
    rintro _ ⟨y, rfl⟩
    replace H := y.h
    go_wp2_with (first
      | (go_at_call 10; (with_reducible refine (awake8_c _).mono ?_); rintro e wN ⟨rfl, gN⟩; replace H := H.trans gN; clear gN))
    go_ret
    exact ⟨rfl, G1.out.trans H⟩
  | false =>
    obtain ⟨V, R⟩ := hS rfl
    replace R := R.on G0
    go_enter Tryz.func3, Tryz.ntmps3
    go_upto_region 1 with (fail)
    obtain ⟨w1, hw1⟩ : ∃ w1, w.alloc (.cells M 46) = w1 := ⟨_, rfl⟩
    rw [hw1] at hB G0 R ⊢
    have hX : w1.heap[w.heap.size]? = some (.cells M 46 (0, 0)) := hB
    have H : Wider w1 w1 := Wider.refl w1
    have G1 : Hid (Wider w w1) := G0
    clear G0 hB hw1
    refine wp_region_plain H ?_
    repeat (first
      | (go_big_quiet_want; (refine quiet_row 46 (.tmp 1) rfl w.heap.size rfl (C := M) _ (after_blk hX) Tryz.underlying46 rfl (by rw [sM]; kernel_rfl) ?_); go_big_quiet_on; simp only [Act.put, List.setIfInBounds_toArray, List.set_cons_succ, List.set_cons_zero])
      | (go_big_quiet_step (first | (fail) | (go_at_call 9; exact quiet_after (hL _)) | (go_at_call 10; exact quiet_after (awake8_c _))); (try simp only [Bool.false_eq_true, ↓reduceIte])))
    refine wpQuiet_nil ?_
    rintro _ ⟨y, rfl⟩
    replace H := y.h
    replace R := R.on H
    replace hX := wide_blk hX H
    obtain ⟨wY, hwY⟩ : ∃ wY, y.w = wY := ⟨_, rfl⟩
    rw [hwY] at R hX H ⊢
    clear hwY
    go_upto_region 4 with (first
      | (with_reducible refine wpList_load_row rfl 46 (.tmp 1) rfl w.heap.size rfl 46 M (0, 0) _ hX Tryz.underlying46 rfl (by rw [sM]; kernel_rfl) ?_)
      | (go_at_call 11; (with_reducible refine (own_c _ R o0).mono ?_); rintro e wN ⟨I, rfl, gN, RI, oI⟩; have sI := RI.size)
      | (with_reducible refine wpList_store_row rfl 46 (.tmp 3) (.tmp 15) rfl wN.heap.size I rfl rfl 46 zM (heap_alloc_new wN _) (by rw [sI]; kernel_rfl) (by rw [sI]; exact zM_size) oI ?_))
    have HS := (setRow_facts I (heap_alloc_new wN (.cells zM 46))).1
    have hI := (setRow_facts I (heap_alloc_new wN (.cells zM 46))).2
    have H2 := HS.wider (gN.alloc _) (fun i m => by simp only [List.mem_singleton] at m; subst m; exact gN.2)
    have H3 := HS.wider ((Wider.refl wN).alloc _) (fun i m => by simp only [List.mem_singleton] at m; subst m; exact Nat.le_refl _)
    replace RI := RI.on H3
    replace R := R.on H2
    replace hX := wide_blk hX H2
    have HB := Lib.hid (H.trans H2)
    clear HS H3 oI o0 H H2 gN
    obtain ⟨BI, hBe⟩ : ∃ B, wN.heap.size = B := ⟨_, rfl⟩
    obtain ⟨wI, hwS⟩ : ∃ wS, (wN.alloc (.cells zM 46)).setRow wN.heap.size I = wS := ⟨_, rfl⟩
    rw [hwS] at hI RI R hX HB ⊢
    rw [hBe] at hI ⊢
    clear hwS hBe
    go_wp2
    go_loopw [4] (fun i wr => ∃ k : Nat, k ≤ 8 ∧ i = .int .i64 (k : Int) ∧ Wider wI wr) (fun i _ => 8 - (intOf i).toNat)
    case atStart => exact ⟨0, by omega, by simp, Wider.refl wI⟩
    case round =>
      obtain ⟨k, hk, rfl, H0⟩ := hrel
      have H : Wider wI wr := H0
      by_cases ck : k < 8
      · have j0 : (0 : Int) ≤ (k : Int) := by omega
        have j1 : (k : Int) < 8 := by omega
        rcases put_ways k (V k) with ⟨ov, hb, hp⟩ | ⟨hb, hp⟩
        · replace hb := Lib.hid hb
          obtain ⟨T2, hT2⟩ : ∃ T2, encG (csKind k) (V k) = T2 := ⟨_, rfl⟩
          rw [hT2] at hp
          clear hT2 ov
          go_upto_region 7 with (fail)
          refine wp_region_plain H0 ?_
          repeat (first
            | (go_big_quiet_want; (refine quiet_row 46 (.tmp 3) rfl BI rfl (C := I) _ (after_blk hI) Tryz.underlying46 rfl (by rw [sI]; kernel_rfl) ?_); go_big_quiet_on; simp only [Act.put, List.setIfInBounds_toArray, List.set_cons_succ, List.set_cons_zero])
            | (go_big_quiet_step (first | (fail) | (go_at_call 12; exact quiet_after ((RI.on (After.h _)).puts k ck hb.out hp))); (try simp only [Bool.false_eq_true, ↓reduceIte])))
          refine wpQuiet_nil ?_
          rintro _ ⟨y7, rfl⟩
          replace H0 := y7.h
          have hI2 := hI
          go_upto_region 8 with (fail)
          refine wp_region_plain H0 ?_
          repeat (first
            | (go_big_quiet_want; (refine quiet_row 46 (.tmp 1) rfl w.heap.size rfl (C := M) _ (after_blk hX) Tryz.underlying46 rfl (by rw [sM]; kernel_rfl) ?_); go_big_quiet_on; simp only [Act.put, List.setIfInBounds_toArray, List.set_cons_succ, List.set_cons_zero])
            | (go_big_quiet_step (first | (fail) | (go_at_call 13; exact quiet_after ((R.on (After.h _)).must k ck hb.out hp))); (try simp only [Bool.false_eq_true, ↓reduceIte])))
          refine wpQuiet_nil ?_
          rintro _ ⟨y8, rfl⟩
          replace H0 := y8.h
          go_wp2
          go_roundw
          case rel => exact ⟨k + 1, by omega, by go_num, H0⟩
          case measure => simp [intOf]; omega
        · replace hb := Lib.hid hb
          go_upto_region 7 with (fail)
          refine wp_region_plain H0 ?_
          repeat (first
            | (go_big_quiet_want; (refine quiet_row 46 (.tmp 3) rfl BI rfl (C := I) _ (after_blk hI) Tryz.underlying46 rfl (by rw [sI]; kernel_rfl) ?_); go_big_quiet_on; simp only [Act.put, List.setIfInBounds_toArray, List.set_cons_succ, List.set_cons_zero])
            | (go_big_quiet_step (first | (fail) | (go_at_call 12; exact quiet_after ((RI.on (After.h _)).puts k ck hb.out hp))); (try simp only [Bool.false_eq_true, ↓reduceIte])))
          refine wpQuiet_nil ?_
          rintro _ ⟨y7, rfl⟩
          replace H0 := y7.h
          have hI2 := hI
          go_upto_region 8 with (fail)
          refine wp_region_plain H0 ?_
          repeat (first
            | (go_big_quiet_want; (refine quiet_row 46 (.tmp 1) rfl w.heap.size rfl (C := M) _ (after_blk hX) Tryz.underlying46 rfl (by rw [sM]; kernel_rfl) ?_); go_big_quiet_on; simp only [Act.put, List.setIfInBounds_toArray, List.set_cons_succ, List.set_cons_zero])
            | (go_big_quiet_step (first | (fail) | (go_at_call 13; exact quiet_after ((R.on (After.h _)).must k ck hb.out hp))); (try simp only [Bool.false_eq_true, ↓reduceIte])))
          refine wpQuiet_nil ?_
          rintro _ ⟨y8, rfl⟩
          replace H0 := y8.h
          go_wp2
          go_roundw
          case rel => exact ⟨k + 1, by omega, by go_num, H0⟩
          case measure => simp [intOf]; omega
      · obtain rfl : k = 8 := by omega
        have hss : true = true ↔ ∀ j, j < 8 → V j = V j := ⟨fun _ _ _ => rfl, fun _ => rfl⟩
        replace hss := Lib.hid hss
        go_upto_region 11 with (fail)
        refine wp_region_plain H0 ?_
        repeat (first
          | (go_big_quiet_want; (refine quiet_row 46 (.tmp 3) rfl BI rfl (C := I) _ (after_blk hI) Tryz.underlying46 rfl (by rw [sI]; kernel_rfl) ?_); go_big_quiet_on; simp only [Act.put, List.setIfInBounds_toArray, List.set_cons_succ, List.set_cons_zero])
          | (go_big_quiet_want; (refine quiet_row 46 (.tmp 1) rfl w.heap.size rfl (C := M) _ (after_blk hX) Tryz.underlying46 rfl (by rw [sM]; kernel_rfl) ?_); go_big_quiet_on; simp only [Act.put, List.setIfInBounds_toArray, List.set_cons_succ, List.set_cons_zero])
          | (go_big_quiet_step (first | (fail) | (go_at_call 14; exact quiet_after (same_c _ (RI.on (After.h _)) (R.on (After.h _)) hss.out)) | (go_at_call 10; exact quiet_after (awake8_c _))); (try simp only [Bool.false_eq_true, ↓reduceIte])))
        refine wpQuiet_nil ?_
        rintro _ ⟨y9, rfl⟩
        replace H0 := y9.h
        go_wp2
        go_ret
        exact ⟨rfl, (G1.out.trans HB.out).trans H0⟩
set_option maxRecDepth 100000 in
theorem objPuts_lifted (os : Os) (started : os.Started) (H : Type) (enc : TypeId × Value → H) :
    ReturnsInHanded {} Tryz.checked os 3 .any (Rows.objPutsSpec.pre6 enc Tryz.prog Tryz.f3 Rows.objPutsRow.domain false) (Rows.objPutsSpec.post enc Tryz.prog Tryz.f3 false true false false) := by
  refine returnsInHanded_of_change_sized (C := Tryz.checked) own started (by kernel_rfl) Tryz.func3
    (ChangeSpec.witness6 (enc := enc) (C := Tryz.checked) false ⟨#[], #[.agg #[.int .u8 0, .int .u32 0, .int .i64 0, .int .i64 0, .int .i64 0, .int .i64 0, .int .i64 0, .int .u64 0, .int .u64 0, .string ⟨#[]⟩, .slice none 0 0, .int .i64 0, .int .i64 0, .int .i64 0, .int .i64 0, .int .i64 0, .int .i64 0, .int .i64 0, .slice none 0 0, .int .i64 0, .int .i64 0, .int .u8 0, .int .i64 0, .int .i64 0, .int .i64 0, .int .i64 0, .int .u8 0, .slice none 0 0, .int .i64 0, .int .i64 0, .int .i64 0, .string ⟨#[]⟩, .string ⟨#[]⟩, .int .i64 0, .int .i64 0, .int .i64 0, .slice none 0 0, .int .i64 0, .int .i64 0, .int .u64 0, .bool false, .int .i64 0, .slice none 0 0, .int .i64 0, .int .u8 0, .int .i64 0, .slice none 0 0, .int .i64 0, .int .i64 0, .int .i64 0, .int .i64 0, .int .i64 0]], []⟩ 8 (by kernel_rfl) (by kernel_rfl) (by kernel_rfl) (by kernel_rfl)) ?_
  intro W base args ds gs before hval0 hW hcnd hsz _
  have hval : ∀ (j : Nat) t v, Tryz.f3.params[j]? = some t → args[j]? = some v → Value.okWide Tryz.prog W .any base t v := hval0
  have hW' := hW
  obtain ⟨p, q, hA0, hV, rfl, hfz, hnd⟩ := hW
  have hA : DataW.TrodAll enc Tryz.prog W 0 (fun _ => true) true Tryz.f3.params.toList args.toList ds p := hA0
  rw [Tryz.params3] at hA hval hsz
  obtain ⟨v0, vs0, d0, ds0, p0, q0, hargs, rfl, rfl, h0, r0⟩ := trodAll_cons hA
  obtain ⟨rfl, rfl, rfl⟩ := trodAll_nil r0
  obtain rfl : args = #[v0] := by cases args; simp_all
  obtain ⟨rfl, rfl⟩ := trodVars_none hV
  have h0k := h0
  obtain ⟨x0, o0, rfl, f0⟩ := open_msg_few (hval 0 46 v0 rfl rfl) h0 hsz 0 rfl rfl
  clear hA0 hval0
  simp only [List.append_nil] at hW'
  refine (objPuts_walk W x0 o0 f0).mono fun e W' ⟨he, hg⟩ => ?_
  subst he
  have hlt : ∀ x ∈ p0, x.block < W.heap.size := fun x hx => by simpa using hW'.lt x hx
  exact ⟨_, rfl, post_of_wider (pv := []) hW' (fun _ _ _ => (trodAll_cons_mk (shut_bool Tryz.underlying4 _) trodAll_mk0)) (fun sp hsp => (trodAll_cons_mk (WideElems.Trod_stays laid3 (by kernel_rfl) (of_decide_eq_true (by kernel_rfl)) h0k (fun x hx => wsame hg (hlt x (by simp [hx]))) (fun x hx => hsp x (by simp [hx]))) trodAll_mk0)) (fun _ _ => rfl) (by simp)
    hg (ok_one (by kernel_rfl) rfl (okWide_bool_mk Tryz.underlying4 _))⟩

theorem objPuts_holds : Rows.ObjPutsSaid :=
  OpenClaim.holds_of_wide 3 Tryz.f3 rfl rfl rfl rfl rfl rfl rfl ⟨rfl, rfl, rfl, rfl, rfl⟩ rfl rfl rfl rfl rfl (by kernel_rfl) Tryz.func3 (by kernel_rfl)
    (of_decide_eq_true (by kernel_rfl)) (by unfold Func.isWrapper; first | (rw [if_pos (by decide +kernel)]; kernel_rfl) | (rw [if_neg (by decide +kernel)]; exact ⟨rfl, rfl⟩))
    (fun os started H enc _ => objPuts_lifted os started H enc)

#print axioms objPuts_holds

end Go.Proofs.YtlldgmdgogkdiaaGreat

