/- The law ObjSame: whether two objects of one kind are the same is the document's. No condition. -/
import Derived.Test.YtlldgmdgogkdiaaOOwn
import Derived.Test.YtlldgmdgogkdiaaOCRs
import Derived.Test.YtlldgmdgogkdiaaOMsgIn
import Derived.Test.YtlldgmdgogkdiaaOAwake
import Derived.SizedLaws
namespace Go.Proofs.Ytlldgmdgogkdiaa
set_option linter.unusedVariables false
set_option maxRecDepth 20000
open Go.ChangeShapes Go.WideShapes Go.ChangeAt Go.RowKit Go.Joins
open Go.ChangeMaps (open_string shut_string)

theorem MsgN.one (x : MsgN) : x.cells.toArray.all (·.oneCell') = true := by
  simp [MsgN.cells, NodeN.cells, FieldN.cells, TableN.cells, EntryN.cells, BlockN.cells, GroupN.cells, MeterN.cells, RegsN.cells, Value.oneCell']
theorem wpList_plain_quiet {P : Program} {ops : Array Oper} {Q : Exit → Act → World → Prop} {a : Act} {w : World} {op : Oper} {rest : List Oper} {t : TypeId} {x : Operand} {i : Nat} (hop : op.op = .fieldAddr t x i)
    (h : wpQuiet P ops (fun w' => ∃ x : After w, w' = x.w) (fun a' => ∀ w', (∃ x : After w, w' = x.w) → Q .normal a' w') (op :: rest) a) : wpList P ops Q (op :: rest) a w :=
  wpList_of_quiet (C := fun w' => ∃ x : After w, w' = x.w) (fun a' w' hw' k => k w' hw') (op :: rest) a w ⟨⟨w, Wider.refl w⟩, rfl⟩ h
/-- The order of a long region, piece by piece (each piece is a text of its own for the kernel). -/
def lexPart (md : Region.Mode) (ops : Array Oper) : Nat → Nat → Array Bool → Bool
  | 0, _, _ => true
  | f + 1, k, listed => (Region.ready md ops listed).contains k && Region.free md ops listed k && lexPart md ops f (k + 1) (listed.setIfInBounds k true)
def lexMark : Nat → Nat → Array Bool → Array Bool
  | 0, _, listed => listed
  | f + 1, k, listed => lexMark f (k + 1) (listed.setIfInBounds k true)
theorem lexFrom_split (md : Region.Mode) (ops : Array Oper) (g : Nat) : ∀ (f k : Nat) (listed : Array Bool), Region.lexFrom md ops (f + g) k listed = (lexPart md ops f k listed && Region.lexFrom md ops g (k + f) (lexMark f k listed))
  | 0, k, listed => by simp [lexPart, lexMark]
  | f + 1, k, listed => by
    rw [show f + 1 + g = (f + g) + 1 by omega]
    simp only [Region.lexFrom, lexPart, lexMark]
    rw [lexFrom_split md ops g f (k + 1), show k + 1 + f = k + (f + 1) by omega, Bool.and_assoc, Bool.and_assoc, Bool.and_assoc]
theorem lexFrom_and {md : Region.Mode} {ops : Array Oper} {n g k : Nat} {listed : Array Bool} (f : Nat) (hn : n = f + g) (h1 : lexPart md ops f k listed = true) (h2 : Region.lexFrom md ops g (k + f) (lexMark f k listed) = true) : Region.lexFrom md ops n k listed = true := by
  rw [hn, lexFrom_split, h1, h2]; rfl
theorem lexB_of {md : Region.Mode} {ops : Array Oper} {n : Nat} (hn : ops.size = n) (h0 : Region.noSelect ops = true) (h : Region.lexFrom md ops n 0 (Array.replicate n false) = true) : Region.lexB md ops = true := by
  unfold Region.lexB
  rw [h0, hn, h]; rfl
theorem some_boolS (p : Prop) : ∃ b : Bool, b = true ↔ p := by
  by_cases h : p
  · exact ⟨true, ⟨fun _ => h, fun _ => rfl⟩⟩
  · exact ⟨false, ⟨fun e => (by cases e), fun e => absurd e h⟩⟩
set_option maxHeartbeats 32000000 in
theorem objSame_walk (w : World) (x : MsgN) (o : x.Ok w) (f : x.Few) (x2 : MsgN) (o2 : x2.Ok w) (f2 : x2.Few) :
    Calls Try.prog 3 #[.agg x.cells.toArray, .agg x2.cells.toArray] w fun e w' => e = .returned (.bool true) ∧ Wider w w' := by
  obtain ⟨b, hL, hS⟩ := MsgN.large o f
  obtain ⟨b2, hL2, hS2⟩ := MsgN.large o2 f2
  have o0 := MsgN.one x
  obtain ⟨M, hM⟩ : ∃ M, x.cells.toArray = M := ⟨_, rfl⟩
  obtain ⟨N, hN⟩ : ∃ N, x2.cells.toArray = N := ⟨_, rfl⟩
  have sM : M.size = 52 := by rw [← hM]; rfl
  have sN : N.size = 52 := by rw [← hN]; rfl
  rw [hM] at hL hS o0 ⊢
  rw [hN] at hL2 hS2 ⊢
  clear hM o f hN o2 f2
  have G0 := ((Wider.refl w).alloc (.cells M 46)).alloc (.cells N 46)
  have hz : (w.alloc (.cells M 46)).heap.size = w.heap.size + 1 := by simp
  have hX := wide_blk (heap_alloc_new w (.cells M 46)) ((Wider.refl _).alloc (.cells N 46))
  have hY := heap_alloc_new (w.alloc (.cells M 46)) (.cells N 46)
  rw [hz] at hY
  clear hz
  cases b with
  | true =>
    as_aux_lemma =>
    go_enter Try.func3, Try.ntmps3
    go_upto_region 1 with (fail)
    obtain ⟨w1, hw1⟩ : ∃ w1, (w.alloc (.cells M 46)).alloc (.cells N 46) = w1 := ⟨_, rfl⟩
    rw [hw1] at hX hY G0 ⊢
    have H : Wider w1 w1 := Wider.refl w1
    have G1 : Hid (Wider w w1) := G0
    clear G0 hw1
    refine wp_region_plain H ?_
    repeat (first
      | (go_big_quiet_want; (refine quiet_row 46 (.tmp 2) rfl w.heap.size rfl (C := M) _ (after_blk hX) Try.underlying46 rfl (by rw [sM]; kernel_rfl) ?_); go_big_quiet_on; simp only [Act.put, List.setIfInBounds_toArray, List.set_cons_succ, List.set_cons_zero])
      | (go_big_quiet_want; (refine quiet_row 46 (.tmp 3) rfl (w.heap.size + 1) rfl (C := N) _ (after_blk hY) Try.underlying46 rfl (by rw [sN]; kernel_rfl) ?_); go_big_quiet_on; simp only [Act.put, List.setIfInBounds_toArray, List.set_cons_succ, List.set_cons_zero])
      | (go_big_quiet_step (first | (fail) | (go_at_call 4; with_reducible exact quiet_after (hL _)) | (go_at_call 4; with_reducible exact quiet_after (hL2 _)) | (go_at_call 5; exact quiet_after (awake8_c _))); (try simp only [Bool.false_eq_true, ↓reduceIte])))
    refine wpQuiet_nil ?_
    rintro _ ⟨y, rfl⟩
    replace H := y.h
    go_wp2_with (first
      | (go_at_call 5; (with_reducible refine (awake8_c _).mono ?_); rintro e wN ⟨rfl, gN⟩; replace H := H.trans gN; clear gN))
    go_ret
    exact ⟨rfl, G1.out.trans H⟩
  | false =>
    obtain ⟨V, RX⟩ := hS rfl
    replace RX := RX.on G0
    cases b2 with
    | true =>
      as_aux_lemma =>
      go_enter Try.func3, Try.ntmps3
      go_upto_region 1 with (fail)
      obtain ⟨w1, hw1⟩ : ∃ w1, (w.alloc (.cells M 46)).alloc (.cells N 46) = w1 := ⟨_, rfl⟩
      rw [hw1] at hX hY G0 RX ⊢
      have H : Wider w1 w1 := Wider.refl w1
      have G1 : Hid (Wider w w1) := G0
      clear G0 hw1
      refine wp_region_plain H ?_
      repeat (first
        | (go_big_quiet_want; (refine quiet_row 46 (.tmp 2) rfl w.heap.size rfl (C := M) _ (after_blk hX) Try.underlying46 rfl (by rw [sM]; kernel_rfl) ?_); go_big_quiet_on; simp only [Act.put, List.setIfInBounds_toArray, List.set_cons_succ, List.set_cons_zero])
        | (go_big_quiet_want; (refine quiet_row 46 (.tmp 3) rfl (w.heap.size + 1) rfl (C := N) _ (after_blk hY) Try.underlying46 rfl (by rw [sN]; kernel_rfl) ?_); go_big_quiet_on; simp only [Act.put, List.setIfInBounds_toArray, List.set_cons_succ, List.set_cons_zero])
        | (go_big_quiet_step (first | (fail) | (go_at_call 4; with_reducible exact quiet_after (hL _)) | (go_at_call 4; with_reducible exact quiet_after (hL2 _)) | (go_at_call 5; exact quiet_after (awake8_c _))); (try simp only [Bool.false_eq_true, ↓reduceIte])))
      refine wpQuiet_nil ?_
      rintro _ ⟨y, rfl⟩
      replace H := y.h
      go_wp2_with (first
        | (go_at_call 5; (with_reducible refine (awake8_c _).mono ?_); rintro e wN ⟨rfl, gN⟩; replace H := H.trans gN; clear gN))
      go_ret
      exact ⟨rfl, G1.out.trans H⟩
    | false =>
      obtain ⟨U, RY⟩ := hS2 rfl
      replace RY := RY.on G0
      obtain ⟨q0, hq0⟩ := some_boolS (V 0 = U 0)
      replace hq0 := Lib.hid hq0
      have d0 : (q0 == q0) = true := beq_self_eq_true _
      obtain ⟨q1, hq1⟩ := some_boolS (V 1 = U 1)
      replace hq1 := Lib.hid hq1
      have d1 : (q1 == q1) = true := beq_self_eq_true _
      obtain ⟨q2, hq2⟩ := some_boolS (V 2 = U 2)
      replace hq2 := Lib.hid hq2
      have d2 : (q2 == q2) = true := beq_self_eq_true _
      obtain ⟨q3, hq3⟩ := some_boolS (V 3 = U 3)
      replace hq3 := Lib.hid hq3
      have d3 : (q3 == q3) = true := beq_self_eq_true _
      obtain ⟨q4, hq4⟩ := some_boolS (V 4 = U 4)
      replace hq4 := Lib.hid hq4
      have d4 : (q4 == q4) = true := beq_self_eq_true _
      obtain ⟨q5, hq5⟩ := some_boolS (V 5 = U 5)
      replace hq5 := Lib.hid hq5
      have d5 : (q5 == q5) = true := beq_self_eq_true _
      obtain ⟨q6, hq6⟩ := some_boolS (V 6 = U 6)
      replace hq6 := Lib.hid hq6
      have d6 : (q6 == q6) = true := beq_self_eq_true _
      obtain ⟨q7, hq7⟩ := some_boolS (V 7 = U 7)
      replace hq7 := Lib.hid hq7
      have d7 : (q7 == q7) = true := beq_self_eq_true _
      clear hS hS2
      go_enter Try.func3, Try.ntmps3
      go_upto_region 1 with (fail)
      obtain ⟨w1, hw1⟩ : ∃ w1, (w.alloc (.cells M 46)).alloc (.cells N 46) = w1 := ⟨_, rfl⟩
      rw [hw1] at hX hY G0 RX RY ⊢
      have H : Wider w1 w1 := Wider.refl w1
      have G1 : Hid (Wider w w1) := G0
      clear G0 hw1
      refine wp_region_plain H ?_
      repeat (first
        | (go_big_quiet_want; (refine quiet_row 46 (.tmp 2) rfl w.heap.size rfl (C := M) _ (after_blk hX) Try.underlying46 rfl (by rw [sM]; kernel_rfl) ?_); go_big_quiet_on; simp only [Act.put, List.setIfInBounds_toArray, List.set_cons_succ, List.set_cons_zero])
        | (go_big_quiet_want; (refine quiet_row 46 (.tmp 3) rfl (w.heap.size + 1) rfl (C := N) _ (after_blk hY) Try.underlying46 rfl (by rw [sN]; kernel_rfl) ?_); go_big_quiet_on; simp only [Act.put, List.setIfInBounds_toArray, List.set_cons_succ, List.set_cons_zero])
        | (go_big_quiet_step (first | (fail) | (go_at_call 4; with_reducible exact quiet_after (hL _)) | (go_at_call 4; with_reducible exact quiet_after (hL2 _)) | (go_at_call 5; exact quiet_after (awake8_c _))); (try simp only [Bool.false_eq_true, ↓reduceIte])))
      refine wpQuiet_nil ?_
      rintro _ ⟨y, rfl⟩
      replace H := y.h
      replace RX := RX.on H
      replace RY := RY.on H
      replace hX := wide_blk hX H
      replace hY := wide_blk hY H
      have HB := Lib.hid (G1.out.trans H)
      clear hL hL2 G1
      obtain ⟨wY, hwY⟩ : ∃ wY, y.w = wY := ⟨_, rfl⟩
      rw [hwY] at RX RY hX hY HB ⊢
      clear hwY H
      go_upto_region 4 with (first
        | (with_reducible refine wpList_load_row rfl 46 (.tmp 2) rfl w.heap.size rfl 46 M (0, 0) _ hX Try.underlying46 rfl (by rw [sM]; kernel_rfl) ?_)
        | (go_at_call 6; (with_reducible refine (own_c _ RX o0).mono ?_); rintro e wN ⟨I, rfl, gN, RI, oI⟩; have sI := RI.size)
        | (with_reducible refine wpList_store_row rfl 46 (.tmp 5) (.tmp 14) rfl wN.heap.size I rfl rfl 46 zM (heap_alloc_new wN _) (by rw [sI]; kernel_rfl) (by rw [sI]; exact zM_size) oI ?_))
      have HS := (setRow_facts I (heap_alloc_new wN (.cells zM 46))).1
      have hI := (setRow_facts I (heap_alloc_new wN (.cells zM 46))).2
      have H2 := HS.wider (gN.alloc _) (fun i m => by simp only [List.mem_singleton] at m; subst m; exact gN.2)
      have H3 := HS.wider ((Wider.refl wN).alloc _) (fun i m => by simp only [List.mem_singleton] at m; subst m; exact Nat.le_refl _)
      replace RI := RI.on H3
      replace RX := RX.on H2
      replace RY := RY.on H2
      replace hX := wide_blk hX H2
      replace hY := wide_blk hY H2
      replace HB := Lib.hid (HB.out.trans H2)
      clear HS H3 oI o0 H2 gN
      obtain ⟨BI, hBe⟩ : ∃ B, wN.heap.size = B := ⟨_, rfl⟩
      obtain ⟨wI, hwS⟩ : ∃ wS, (wN.alloc (.cells zM 46)).setRow wN.heap.size I = wS := ⟨_, rfl⟩
      rw [hwS] at hI RI RX RY hX hY HB ⊢
      rw [hBe] at hI ⊢
      clear hwS hBe
      as_aux_lemma =>
      have H : Wider wI wI := Wider.refl wI
      try simp only [Act.put]
      refine wp_region_after (by kernel_rfl) (lexB_of (n := 141) (by kernel_rfl) (by as_aux_lemma => kernel_rfl) (lexFrom_and 16 (g := 125) rfl (by as_aux_lemma => kernel_rfl) (lexFrom_and 16 (g := 109) rfl (by as_aux_lemma => kernel_rfl) (lexFrom_and 16 (g := 93) rfl (by as_aux_lemma => kernel_rfl) (lexFrom_and 16 (g := 77) rfl (by as_aux_lemma => kernel_rfl) (lexFrom_and 16 (g := 61) rfl (by as_aux_lemma => kernel_rfl) (lexFrom_and 16 (g := 45) rfl (by as_aux_lemma => kernel_rfl) (lexFrom_and 16 (g := 29) rfl (by as_aux_lemma => kernel_rfl) (lexFrom_and 16 (g := 13) rfl (by as_aux_lemma => kernel_rfl) (by as_aux_lemma => kernel_rfl)))))))))) H ?_
      as_aux_lemma =>
      dsimp only [List.append]
      as_aux_lemma =>
      try simp only [Act.put, List.setIfInBounds_toArray, List.set_cons_succ, List.set_cons_zero]
      as_aux_lemma =>
      (go_big_quiet_want; (refine quiet_field 46 (.tmp 2) 11 rfl w.heap.size 0 11 rfl (fieldM11 _) ?_); go_big_quiet_on; simp only [Act.put, List.setIfInBounds_toArray, List.set_cons_succ, List.set_cons_zero])
      (go_big_quiet_want; (refine quiet_load 27 (.tmp 15) rfl w.heap.size 11 9 20 rfl rfl (C := M) _ (after_blk hX) (by rw [sM]; decide) Try.underlying27 rfl (by kernel_rfl) ?_); go_big_quiet_on; simp only [Act.put, List.setIfInBounds_toArray, List.set_cons_succ, List.set_cons_zero])
      (go_big_quiet_want; (refine quiet_field 46 (.tmp 3) 11 rfl (w.heap.size + 1) 0 11 rfl (fieldM11 _) ?_); go_big_quiet_on; simp only [Act.put, List.setIfInBounds_toArray, List.set_cons_succ, List.set_cons_zero])
      (go_big_quiet_want; (refine quiet_load 27 (.tmp 17) rfl (w.heap.size + 1) 11 9 20 rfl rfl (C := N) _ (after_blk hY) (by rw [sN]; decide) Try.underlying27 rfl (by kernel_rfl) ?_); go_big_quiet_on; simp only [Act.put, List.setIfInBounds_toArray, List.set_cons_succ, List.set_cons_zero])
      (go_big_quiet_step (first | (fail) | (go_at_call 7; exact quiet_after ((RX.on (After.h _)).r0.csame (RY.on (After.h _)).r0 hq0.out))); (try simp only [Bool.false_eq_true, ↓reduceIte]))
      (go_big_quiet_want; (refine quiet_field 46 (.tmp 2) 11 rfl w.heap.size 0 11 rfl (fieldM11 _) ?_); go_big_quiet_on; simp only [Act.put, List.setIfInBounds_toArray, List.set_cons_succ, List.set_cons_zero])
      (go_big_quiet_want; (refine quiet_load 27 (.tmp 20) rfl w.heap.size 11 9 20 rfl rfl (C := M) _ (after_blk hX) (by rw [sM]; decide) Try.underlying27 rfl (by kernel_rfl) ?_); go_big_quiet_on; simp only [Act.put, List.setIfInBounds_toArray, List.set_cons_succ, List.set_cons_zero])
      (go_big_quiet_want; (refine quiet_field 46 (.tmp 3) 11 rfl (w.heap.size + 1) 0 11 rfl (fieldM11 _) ?_); go_big_quiet_on; simp only [Act.put, List.setIfInBounds_toArray, List.set_cons_succ, List.set_cons_zero])
      (go_big_quiet_want; (refine quiet_load 27 (.tmp 22) rfl (w.heap.size + 1) 11 9 20 rfl rfl (C := N) _ (after_blk hY) (by rw [sN]; decide) Try.underlying27 rfl (by kernel_rfl) ?_); go_big_quiet_on; simp only [Act.put, List.setIfInBounds_toArray, List.set_cons_succ, List.set_cons_zero])
      (go_big_quiet_step (first | (fail) | (go_at_call 8; exact quiet_after ((RX.on (After.h _)).r0.same (RY.on (After.h _)).r0 hq0.out))); (try simp only [Bool.false_eq_true, ↓reduceIte]))
      (go_big_quiet_step (first | (fail)); (try simp only [Bool.false_eq_true, ↓reduceIte]))
      (go_big_quiet_step (first | (fail)); (try simp only [Bool.false_eq_true, ↓reduceIte]))
      (go_big_quiet_want; (refine quiet_field 46 (.tmp 2) 12 rfl w.heap.size 0 20 rfl (fieldM12 _) ?_); go_big_quiet_on; simp only [Act.put, List.setIfInBounds_toArray, List.set_cons_succ, List.set_cons_zero])
      (go_big_quiet_want; (refine quiet_load 29 (.tmp 27) rfl w.heap.size 20 5 25 rfl rfl (C := M) _ (after_blk hX) (by rw [sM]; decide) Try.underlying29 rfl (by kernel_rfl) ?_); go_big_quiet_on; simp only [Act.put, List.setIfInBounds_toArray, List.set_cons_succ, List.set_cons_zero])
      (go_big_quiet_want; (refine quiet_field 46 (.tmp 3) 12 rfl (w.heap.size + 1) 0 20 rfl (fieldM12 _) ?_); go_big_quiet_on; simp only [Act.put, List.setIfInBounds_toArray, List.set_cons_succ, List.set_cons_zero])
      (go_big_quiet_want; (refine quiet_load 29 (.tmp 29) rfl (w.heap.size + 1) 20 5 25 rfl rfl (C := N) _ (after_blk hY) (by rw [sN]; decide) Try.underlying29 rfl (by kernel_rfl) ?_); go_big_quiet_on; simp only [Act.put, List.setIfInBounds_toArray, List.set_cons_succ, List.set_cons_zero])
      (go_big_quiet_step (first | (fail) | (go_at_call 9; exact quiet_after ((RX.on (After.h _)).r1.csame (RY.on (After.h _)).r1 hq1.out))); (try simp only [Bool.false_eq_true, ↓reduceIte]))
      (go_big_quiet_want; (refine quiet_field 46 (.tmp 2) 12 rfl w.heap.size 0 20 rfl (fieldM12 _) ?_); go_big_quiet_on; simp only [Act.put, List.setIfInBounds_toArray, List.set_cons_succ, List.set_cons_zero])
      (go_big_quiet_want; (refine quiet_load 29 (.tmp 32) rfl w.heap.size 20 5 25 rfl rfl (C := M) _ (after_blk hX) (by rw [sM]; decide) Try.underlying29 rfl (by kernel_rfl) ?_); go_big_quiet_on; simp only [Act.put, List.setIfInBounds_toArray, List.set_cons_succ, List.set_cons_zero])
      (go_big_quiet_want; (refine quiet_field 46 (.tmp 3) 12 rfl (w.heap.size + 1) 0 20 rfl (fieldM12 _) ?_); go_big_quiet_on; simp only [Act.put, List.setIfInBounds_toArray, List.set_cons_succ, List.set_cons_zero])
      (go_big_quiet_want; (refine quiet_load 29 (.tmp 34) rfl (w.heap.size + 1) 20 5 25 rfl rfl (C := N) _ (after_blk hY) (by rw [sN]; decide) Try.underlying29 rfl (by kernel_rfl) ?_); go_big_quiet_on; simp only [Act.put, List.setIfInBounds_toArray, List.set_cons_succ, List.set_cons_zero])
      (go_big_quiet_step (first | (fail) | (go_at_call 10; exact quiet_after ((RX.on (After.h _)).r1.same (RY.on (After.h _)).r1 hq1.out))); (try simp only [Bool.false_eq_true, ↓reduceIte]))
      (go_big_quiet_step (first | (fail)); (try simp only [Bool.false_eq_true, ↓reduceIte]))
      (go_big_quiet_step (first | (fail)); (try simp only [Bool.false_eq_true, ↓reduceIte]))
      (go_big_quiet_step (first | (fail)); (try simp only [Bool.false_eq_true, ↓reduceIte]))
      as_aux_lemma =>
      (go_big_quiet_want; (refine quiet_field 46 (.tmp 2) 13 rfl w.heap.size 0 25 rfl (fieldM13 _) ?_); go_big_quiet_on; simp only [Act.put, List.setIfInBounds_toArray, List.set_cons_succ, List.set_cons_zero])
      (go_big_quiet_want; (refine quiet_load 32 (.tmp 40) rfl w.heap.size 25 5 30 rfl rfl (C := M) _ (after_blk hX) (by rw [sM]; decide) Try.underlying32 rfl (by kernel_rfl) ?_); go_big_quiet_on; simp only [Act.put, List.setIfInBounds_toArray, List.set_cons_succ, List.set_cons_zero])
      (go_big_quiet_want; (refine quiet_field 46 (.tmp 3) 13 rfl (w.heap.size + 1) 0 25 rfl (fieldM13 _) ?_); go_big_quiet_on; simp only [Act.put, List.setIfInBounds_toArray, List.set_cons_succ, List.set_cons_zero])
      (go_big_quiet_want; (refine quiet_load 32 (.tmp 42) rfl (w.heap.size + 1) 25 5 30 rfl rfl (C := N) _ (after_blk hY) (by rw [sN]; decide) Try.underlying32 rfl (by kernel_rfl) ?_); go_big_quiet_on; simp only [Act.put, List.setIfInBounds_toArray, List.set_cons_succ, List.set_cons_zero])
      (go_big_quiet_step (first | (fail) | (go_at_call 11; exact quiet_after ((RX.on (After.h _)).r2.csame (RY.on (After.h _)).r2 hq2.out))); (try simp only [Bool.false_eq_true, ↓reduceIte]))
      (go_big_quiet_want; (refine quiet_field 46 (.tmp 2) 13 rfl w.heap.size 0 25 rfl (fieldM13 _) ?_); go_big_quiet_on; simp only [Act.put, List.setIfInBounds_toArray, List.set_cons_succ, List.set_cons_zero])
      (go_big_quiet_want; (refine quiet_load 32 (.tmp 45) rfl w.heap.size 25 5 30 rfl rfl (C := M) _ (after_blk hX) (by rw [sM]; decide) Try.underlying32 rfl (by kernel_rfl) ?_); go_big_quiet_on; simp only [Act.put, List.setIfInBounds_toArray, List.set_cons_succ, List.set_cons_zero])
      (go_big_quiet_want; (refine quiet_field 46 (.tmp 3) 13 rfl (w.heap.size + 1) 0 25 rfl (fieldM13 _) ?_); go_big_quiet_on; simp only [Act.put, List.setIfInBounds_toArray, List.set_cons_succ, List.set_cons_zero])
      (go_big_quiet_want; (refine quiet_load 32 (.tmp 47) rfl (w.heap.size + 1) 25 5 30 rfl rfl (C := N) _ (after_blk hY) (by rw [sN]; decide) Try.underlying32 rfl (by kernel_rfl) ?_); go_big_quiet_on; simp only [Act.put, List.setIfInBounds_toArray, List.set_cons_succ, List.set_cons_zero])
      (go_big_quiet_step (first | (fail) | (go_at_call 12; exact quiet_after ((RX.on (After.h _)).r2.same (RY.on (After.h _)).r2 hq2.out))); (try simp only [Bool.false_eq_true, ↓reduceIte]))
      (go_big_quiet_step (first | (fail)); (try simp only [Bool.false_eq_true, ↓reduceIte]))
      (go_big_quiet_step (first | (fail)); (try simp only [Bool.false_eq_true, ↓reduceIte]))
      (go_big_quiet_step (first | (fail)); (try simp only [Bool.false_eq_true, ↓reduceIte]))
      (go_big_quiet_want; (refine quiet_field 46 (.tmp 2) 14 rfl w.heap.size 0 30 rfl (fieldM14 _) ?_); go_big_quiet_on; simp only [Act.put, List.setIfInBounds_toArray, List.set_cons_succ, List.set_cons_zero])
      (go_big_quiet_want; (refine quiet_load 34 (.tmp 53) rfl w.heap.size 30 11 41 rfl rfl (C := M) _ (after_blk hX) (by rw [sM]; decide) Try.underlying34 rfl (by kernel_rfl) ?_); go_big_quiet_on; simp only [Act.put, List.setIfInBounds_toArray, List.set_cons_succ, List.set_cons_zero])
      (go_big_quiet_want; (refine quiet_field 46 (.tmp 3) 14 rfl (w.heap.size + 1) 0 30 rfl (fieldM14 _) ?_); go_big_quiet_on; simp only [Act.put, List.setIfInBounds_toArray, List.set_cons_succ, List.set_cons_zero])
      (go_big_quiet_want; (refine quiet_load 34 (.tmp 55) rfl (w.heap.size + 1) 30 11 41 rfl rfl (C := N) _ (after_blk hY) (by rw [sN]; decide) Try.underlying34 rfl (by kernel_rfl) ?_); go_big_quiet_on; simp only [Act.put, List.setIfInBounds_toArray, List.set_cons_succ, List.set_cons_zero])
      (go_big_quiet_step (first | (fail) | (go_at_call 13; exact quiet_after ((RX.on (After.h _)).r3.csame (RY.on (After.h _)).r3 hq3.out))); (try simp only [Bool.false_eq_true, ↓reduceIte]))
      (go_big_quiet_want; (refine quiet_field 46 (.tmp 2) 14 rfl w.heap.size 0 30 rfl (fieldM14 _) ?_); go_big_quiet_on; simp only [Act.put, List.setIfInBounds_toArray, List.set_cons_succ, List.set_cons_zero])
      (go_big_quiet_want; (refine quiet_load 34 (.tmp 58) rfl w.heap.size 30 11 41 rfl rfl (C := M) _ (after_blk hX) (by rw [sM]; decide) Try.underlying34 rfl (by kernel_rfl) ?_); go_big_quiet_on; simp only [Act.put, List.setIfInBounds_toArray, List.set_cons_succ, List.set_cons_zero])
      (go_big_quiet_want; (refine quiet_field 46 (.tmp 3) 14 rfl (w.heap.size + 1) 0 30 rfl (fieldM14 _) ?_); go_big_quiet_on; simp only [Act.put, List.setIfInBounds_toArray, List.set_cons_succ, List.set_cons_zero])
      (go_big_quiet_want; (refine quiet_load 34 (.tmp 60) rfl (w.heap.size + 1) 30 11 41 rfl rfl (C := N) _ (after_blk hY) (by rw [sN]; decide) Try.underlying34 rfl (by kernel_rfl) ?_); go_big_quiet_on; simp only [Act.put, List.setIfInBounds_toArray, List.set_cons_succ, List.set_cons_zero])
      (go_big_quiet_step (first | (fail) | (go_at_call 14; exact quiet_after ((RX.on (After.h _)).r3.same (RY.on (After.h _)).r3 hq3.out))); (try simp only [Bool.false_eq_true, ↓reduceIte]))
      (go_big_quiet_step (first | (fail)); (try simp only [Bool.false_eq_true, ↓reduceIte]))
      (go_big_quiet_step (first | (fail)); (try simp only [Bool.false_eq_true, ↓reduceIte]))
      as_aux_lemma =>
      (go_big_quiet_step (first | (fail)); (try simp only [Bool.false_eq_true, ↓reduceIte]))
      (go_big_quiet_want; (refine quiet_field 46 (.tmp 2) 15 rfl w.heap.size 0 41 rfl (fieldM15 _) ?_); go_big_quiet_on; simp only [Act.put, List.setIfInBounds_toArray, List.set_cons_succ, List.set_cons_zero])
      (go_big_quiet_want; (refine quiet_load 37 (.tmp 66) rfl w.heap.size 41 2 43 rfl rfl (C := M) _ (after_blk hX) (by rw [sM]; decide) Try.underlying37 rfl (by kernel_rfl) ?_); go_big_quiet_on; simp only [Act.put, List.setIfInBounds_toArray, List.set_cons_succ, List.set_cons_zero])
      (go_big_quiet_want; (refine quiet_field 46 (.tmp 3) 15 rfl (w.heap.size + 1) 0 41 rfl (fieldM15 _) ?_); go_big_quiet_on; simp only [Act.put, List.setIfInBounds_toArray, List.set_cons_succ, List.set_cons_zero])
      (go_big_quiet_want; (refine quiet_load 37 (.tmp 68) rfl (w.heap.size + 1) 41 2 43 rfl rfl (C := N) _ (after_blk hY) (by rw [sN]; decide) Try.underlying37 rfl (by kernel_rfl) ?_); go_big_quiet_on; simp only [Act.put, List.setIfInBounds_toArray, List.set_cons_succ, List.set_cons_zero])
      (go_big_quiet_step (first | (fail) | (go_at_call 15; exact quiet_after ((RX.on (After.h _)).r4.csame (RY.on (After.h _)).r4 hq4.out))); (try simp only [Bool.false_eq_true, ↓reduceIte]))
      (go_big_quiet_want; (refine quiet_field 46 (.tmp 2) 15 rfl w.heap.size 0 41 rfl (fieldM15 _) ?_); go_big_quiet_on; simp only [Act.put, List.setIfInBounds_toArray, List.set_cons_succ, List.set_cons_zero])
      (go_big_quiet_want; (refine quiet_load 37 (.tmp 71) rfl w.heap.size 41 2 43 rfl rfl (C := M) _ (after_blk hX) (by rw [sM]; decide) Try.underlying37 rfl (by kernel_rfl) ?_); go_big_quiet_on; simp only [Act.put, List.setIfInBounds_toArray, List.set_cons_succ, List.set_cons_zero])
      (go_big_quiet_want; (refine quiet_field 46 (.tmp 3) 15 rfl (w.heap.size + 1) 0 41 rfl (fieldM15 _) ?_); go_big_quiet_on; simp only [Act.put, List.setIfInBounds_toArray, List.set_cons_succ, List.set_cons_zero])
      (go_big_quiet_want; (refine quiet_load 37 (.tmp 73) rfl (w.heap.size + 1) 41 2 43 rfl rfl (C := N) _ (after_blk hY) (by rw [sN]; decide) Try.underlying37 rfl (by kernel_rfl) ?_); go_big_quiet_on; simp only [Act.put, List.setIfInBounds_toArray, List.set_cons_succ, List.set_cons_zero])
      (go_big_quiet_step (first | (fail) | (go_at_call 16; exact quiet_after ((RX.on (After.h _)).r4.same (RY.on (After.h _)).r4 hq4.out))); (try simp only [Bool.false_eq_true, ↓reduceIte]))
      (go_big_quiet_step (first | (fail)); (try simp only [Bool.false_eq_true, ↓reduceIte]))
      (go_big_quiet_step (first | (fail)); (try simp only [Bool.false_eq_true, ↓reduceIte]))
      (go_big_quiet_step (first | (fail)); (try simp only [Bool.false_eq_true, ↓reduceIte]))
      (go_big_quiet_want; (refine quiet_field 46 (.tmp 2) 16 rfl w.heap.size 0 43 rfl (fieldM16 _) ?_); go_big_quiet_on; simp only [Act.put, List.setIfInBounds_toArray, List.set_cons_succ, List.set_cons_zero])
      (go_big_quiet_want; (refine quiet_load 40 (.tmp 79) rfl w.heap.size 43 4 47 rfl rfl (C := M) _ (after_blk hX) (by rw [sM]; decide) Try.underlying40 rfl (by kernel_rfl) ?_); go_big_quiet_on; simp only [Act.put, List.setIfInBounds_toArray, List.set_cons_succ, List.set_cons_zero])
      (go_big_quiet_want; (refine quiet_field 46 (.tmp 3) 16 rfl (w.heap.size + 1) 0 43 rfl (fieldM16 _) ?_); go_big_quiet_on; simp only [Act.put, List.setIfInBounds_toArray, List.set_cons_succ, List.set_cons_zero])
      (go_big_quiet_want; (refine quiet_load 40 (.tmp 81) rfl (w.heap.size + 1) 43 4 47 rfl rfl (C := N) _ (after_blk hY) (by rw [sN]; decide) Try.underlying40 rfl (by kernel_rfl) ?_); go_big_quiet_on; simp only [Act.put, List.setIfInBounds_toArray, List.set_cons_succ, List.set_cons_zero])
      (go_big_quiet_step (first | (fail) | (go_at_call 17; exact quiet_after ((RX.on (After.h _)).r5.csame (RY.on (After.h _)).r5 hq5.out))); (try simp only [Bool.false_eq_true, ↓reduceIte]))
      (go_big_quiet_want; (refine quiet_field 46 (.tmp 2) 16 rfl w.heap.size 0 43 rfl (fieldM16 _) ?_); go_big_quiet_on; simp only [Act.put, List.setIfInBounds_toArray, List.set_cons_succ, List.set_cons_zero])
      (go_big_quiet_want; (refine quiet_load 40 (.tmp 84) rfl w.heap.size 43 4 47 rfl rfl (C := M) _ (after_blk hX) (by rw [sM]; decide) Try.underlying40 rfl (by kernel_rfl) ?_); go_big_quiet_on; simp only [Act.put, List.setIfInBounds_toArray, List.set_cons_succ, List.set_cons_zero])
      (go_big_quiet_want; (refine quiet_field 46 (.tmp 3) 16 rfl (w.heap.size + 1) 0 43 rfl (fieldM16 _) ?_); go_big_quiet_on; simp only [Act.put, List.setIfInBounds_toArray, List.set_cons_succ, List.set_cons_zero])
      (go_big_quiet_want; (refine quiet_load 40 (.tmp 86) rfl (w.heap.size + 1) 43 4 47 rfl rfl (C := N) _ (after_blk hY) (by rw [sN]; decide) Try.underlying40 rfl (by kernel_rfl) ?_); go_big_quiet_on; simp only [Act.put, List.setIfInBounds_toArray, List.set_cons_succ, List.set_cons_zero])
      (go_big_quiet_step (first | (fail) | (go_at_call 18; exact quiet_after ((RX.on (After.h _)).r5.same (RY.on (After.h _)).r5 hq5.out))); (try simp only [Bool.false_eq_true, ↓reduceIte]))
      (go_big_quiet_step (first | (fail)); (try simp only [Bool.false_eq_true, ↓reduceIte]))
      as_aux_lemma =>
      (go_big_quiet_step (first | (fail)); (try simp only [Bool.false_eq_true, ↓reduceIte]))
      (go_big_quiet_step (first | (fail)); (try simp only [Bool.false_eq_true, ↓reduceIte]))
      (go_big_quiet_want; (refine quiet_field 46 (.tmp 2) 17 rfl w.heap.size 0 47 rfl (fieldM17 _) ?_); go_big_quiet_on; simp only [Act.put, List.setIfInBounds_toArray, List.set_cons_succ, List.set_cons_zero])
      (go_big_quiet_want; (refine quiet_load 42 (.tmp 92) rfl w.heap.size 47 3 50 rfl rfl (C := M) _ (after_blk hX) (by rw [sM]; decide) Try.underlying42 rfl (by kernel_rfl) ?_); go_big_quiet_on; simp only [Act.put, List.setIfInBounds_toArray, List.set_cons_succ, List.set_cons_zero])
      (go_big_quiet_want; (refine quiet_field 46 (.tmp 3) 17 rfl (w.heap.size + 1) 0 47 rfl (fieldM17 _) ?_); go_big_quiet_on; simp only [Act.put, List.setIfInBounds_toArray, List.set_cons_succ, List.set_cons_zero])
      (go_big_quiet_want; (refine quiet_load 42 (.tmp 94) rfl (w.heap.size + 1) 47 3 50 rfl rfl (C := N) _ (after_blk hY) (by rw [sN]; decide) Try.underlying42 rfl (by kernel_rfl) ?_); go_big_quiet_on; simp only [Act.put, List.setIfInBounds_toArray, List.set_cons_succ, List.set_cons_zero])
      (go_big_quiet_step (first | (fail) | (go_at_call 19; exact quiet_after ((RX.on (After.h _)).r6.csame (RY.on (After.h _)).r6 hq6.out))); (try simp only [Bool.false_eq_true, ↓reduceIte]))
      (go_big_quiet_want; (refine quiet_field 46 (.tmp 2) 17 rfl w.heap.size 0 47 rfl (fieldM17 _) ?_); go_big_quiet_on; simp only [Act.put, List.setIfInBounds_toArray, List.set_cons_succ, List.set_cons_zero])
      (go_big_quiet_want; (refine quiet_load 42 (.tmp 97) rfl w.heap.size 47 3 50 rfl rfl (C := M) _ (after_blk hX) (by rw [sM]; decide) Try.underlying42 rfl (by kernel_rfl) ?_); go_big_quiet_on; simp only [Act.put, List.setIfInBounds_toArray, List.set_cons_succ, List.set_cons_zero])
      (go_big_quiet_want; (refine quiet_field 46 (.tmp 3) 17 rfl (w.heap.size + 1) 0 47 rfl (fieldM17 _) ?_); go_big_quiet_on; simp only [Act.put, List.setIfInBounds_toArray, List.set_cons_succ, List.set_cons_zero])
      (go_big_quiet_want; (refine quiet_load 42 (.tmp 99) rfl (w.heap.size + 1) 47 3 50 rfl rfl (C := N) _ (after_blk hY) (by rw [sN]; decide) Try.underlying42 rfl (by kernel_rfl) ?_); go_big_quiet_on; simp only [Act.put, List.setIfInBounds_toArray, List.set_cons_succ, List.set_cons_zero])
      (go_big_quiet_step (first | (fail) | (go_at_call 20; exact quiet_after ((RX.on (After.h _)).r6.same (RY.on (After.h _)).r6 hq6.out))); (try simp only [Bool.false_eq_true, ↓reduceIte]))
      (go_big_quiet_step (first | (fail)); (try simp only [Bool.false_eq_true, ↓reduceIte]))
      (go_big_quiet_step (first | (fail)); (try simp only [Bool.false_eq_true, ↓reduceIte]))
      (go_big_quiet_step (first | (fail)); (try simp only [Bool.false_eq_true, ↓reduceIte]))
      (go_big_quiet_want; (refine quiet_field 46 (.tmp 2) 18 rfl w.heap.size 0 50 rfl (fieldM18 _) ?_); go_big_quiet_on; simp only [Act.put, List.setIfInBounds_toArray, List.set_cons_succ, List.set_cons_zero])
      (go_big_quiet_want; (refine quiet_load 44 (.tmp 105) rfl w.heap.size 50 2 52 rfl rfl (C := M) _ (after_blk hX) (by rw [sM]; decide) Try.underlying44 rfl (by kernel_rfl) ?_); go_big_quiet_on; simp only [Act.put, List.setIfInBounds_toArray, List.set_cons_succ, List.set_cons_zero])
      (go_big_quiet_want; (refine quiet_field 46 (.tmp 3) 18 rfl (w.heap.size + 1) 0 50 rfl (fieldM18 _) ?_); go_big_quiet_on; simp only [Act.put, List.setIfInBounds_toArray, List.set_cons_succ, List.set_cons_zero])
      (go_big_quiet_want; (refine quiet_load 44 (.tmp 107) rfl (w.heap.size + 1) 50 2 52 rfl rfl (C := N) _ (after_blk hY) (by rw [sN]; decide) Try.underlying44 rfl (by kernel_rfl) ?_); go_big_quiet_on; simp only [Act.put, List.setIfInBounds_toArray, List.set_cons_succ, List.set_cons_zero])
      (go_big_quiet_step (first | (fail) | (go_at_call 21; exact quiet_after ((RX.on (After.h _)).r7.csame (RY.on (After.h _)).r7 hq7.out))); (try simp only [Bool.false_eq_true, ↓reduceIte]))
      (go_big_quiet_want; (refine quiet_field 46 (.tmp 2) 18 rfl w.heap.size 0 50 rfl (fieldM18 _) ?_); go_big_quiet_on; simp only [Act.put, List.setIfInBounds_toArray, List.set_cons_succ, List.set_cons_zero])
      (go_big_quiet_want; (refine quiet_load 44 (.tmp 110) rfl w.heap.size 50 2 52 rfl rfl (C := M) _ (after_blk hX) (by rw [sM]; decide) Try.underlying44 rfl (by kernel_rfl) ?_); go_big_quiet_on; simp only [Act.put, List.setIfInBounds_toArray, List.set_cons_succ, List.set_cons_zero])
      (go_big_quiet_want; (refine quiet_field 46 (.tmp 3) 18 rfl (w.heap.size + 1) 0 50 rfl (fieldM18 _) ?_); go_big_quiet_on; simp only [Act.put, List.setIfInBounds_toArray, List.set_cons_succ, List.set_cons_zero])
      (go_big_quiet_want; (refine quiet_load 44 (.tmp 112) rfl (w.heap.size + 1) 50 2 52 rfl rfl (C := N) _ (after_blk hY) (by rw [sN]; decide) Try.underlying44 rfl (by kernel_rfl) ?_); go_big_quiet_on; simp only [Act.put, List.setIfInBounds_toArray, List.set_cons_succ, List.set_cons_zero])
      (go_big_quiet_step (first | (fail) | (go_at_call 22; exact quiet_after ((RX.on (After.h _)).r7.same (RY.on (After.h _)).r7 hq7.out))); (try simp only [Bool.false_eq_true, ↓reduceIte]))
      as_aux_lemma =>
      (go_big_quiet_step (first | (fail)); (try simp only [Bool.false_eq_true, ↓reduceIte]))
      (go_big_quiet_step (first | (fail)); (try simp only [Bool.false_eq_true, ↓reduceIte]))
      (go_big_quiet_step (first | (fail)); (try simp only [Bool.false_eq_true, ↓reduceIte]))
      (go_big_quiet_want; (refine quiet_field 46 (.tmp 2) 11 rfl w.heap.size 0 11 rfl (fieldM11 _) ?_); go_big_quiet_on; simp only [Act.put, List.setIfInBounds_toArray, List.set_cons_succ, List.set_cons_zero])
      (go_big_quiet_want; (refine quiet_load 27 (.tmp 118) rfl w.heap.size 11 9 20 rfl rfl (C := M) _ (after_blk hX) (by rw [sM]; decide) Try.underlying27 rfl (by kernel_rfl) ?_); go_big_quiet_on; simp only [Act.put, List.setIfInBounds_toArray, List.set_cons_succ, List.set_cons_zero])
      (go_big_quiet_want; (refine quiet_field 46 (.tmp 5) 11 rfl BI 0 11 rfl (fieldM11 _) ?_); go_big_quiet_on; simp only [Act.put, List.setIfInBounds_toArray, List.set_cons_succ, List.set_cons_zero])
      (go_big_quiet_want; (refine quiet_load 27 (.tmp 120) rfl BI 11 9 20 rfl rfl (C := I) _ (after_blk hI) (by rw [sI]; decide) Try.underlying27 rfl (by kernel_rfl) ?_); go_big_quiet_on; simp only [Act.put, List.setIfInBounds_toArray, List.set_cons_succ, List.set_cons_zero])
      (go_big_quiet_step (first | (fail) | (go_at_call 7; exact quiet_after ((RX.on (After.h _)).r0.csame (RI.on (After.h _)).r0 (r := true) ⟨fun _ => rfl, fun _ => rfl⟩))); (try simp only [Bool.false_eq_true, ↓reduceIte]))
      (go_big_quiet_step (first | (fail)); (try simp only [Bool.false_eq_true, ↓reduceIte]))
      (go_big_quiet_step (first | (fail)); (try simp only [Bool.false_eq_true, ↓reduceIte]))
      (go_big_quiet_want; (refine quiet_field 46 (.tmp 2) 13 rfl w.heap.size 0 25 rfl (fieldM13 _) ?_); go_big_quiet_on; simp only [Act.put, List.setIfInBounds_toArray, List.set_cons_succ, List.set_cons_zero])
      (go_big_quiet_want; (refine quiet_load 32 (.tmp 125) rfl w.heap.size 25 5 30 rfl rfl (C := M) _ (after_blk hX) (by rw [sM]; decide) Try.underlying32 rfl (by kernel_rfl) ?_); go_big_quiet_on; simp only [Act.put, List.setIfInBounds_toArray, List.set_cons_succ, List.set_cons_zero])
      (go_big_quiet_want; (refine quiet_field 46 (.tmp 5) 13 rfl BI 0 25 rfl (fieldM13 _) ?_); go_big_quiet_on; simp only [Act.put, List.setIfInBounds_toArray, List.set_cons_succ, List.set_cons_zero])
      (go_big_quiet_want; (refine quiet_load 32 (.tmp 127) rfl BI 25 5 30 rfl rfl (C := I) _ (after_blk hI) (by rw [sI]; decide) Try.underlying32 rfl (by kernel_rfl) ?_); go_big_quiet_on; simp only [Act.put, List.setIfInBounds_toArray, List.set_cons_succ, List.set_cons_zero])
      (go_big_quiet_step (first | (fail) | (go_at_call 11; exact quiet_after ((RX.on (After.h _)).r2.csame (RI.on (After.h _)).r2 (r := true) ⟨fun _ => rfl, fun _ => rfl⟩))); (try simp only [Bool.false_eq_true, ↓reduceIte]))
      (go_big_quiet_step (first | (fail)); (try simp only [Bool.false_eq_true, ↓reduceIte]))
      (go_big_quiet_step (first | (fail)); (try simp only [Bool.false_eq_true, ↓reduceIte]))
      (go_big_quiet_want; (refine quiet_field 46 (.tmp 2) 14 rfl w.heap.size 0 30 rfl (fieldM14 _) ?_); go_big_quiet_on; simp only [Act.put, List.setIfInBounds_toArray, List.set_cons_succ, List.set_cons_zero])
      (go_big_quiet_want; (refine quiet_load 34 (.tmp 132) rfl w.heap.size 30 11 41 rfl rfl (C := M) _ (after_blk hX) (by rw [sM]; decide) Try.underlying34 rfl (by kernel_rfl) ?_); go_big_quiet_on; simp only [Act.put, List.setIfInBounds_toArray, List.set_cons_succ, List.set_cons_zero])
      (go_big_quiet_want; (refine quiet_field 46 (.tmp 5) 14 rfl BI 0 30 rfl (fieldM14 _) ?_); go_big_quiet_on; simp only [Act.put, List.setIfInBounds_toArray, List.set_cons_succ, List.set_cons_zero])
      (go_big_quiet_want; (refine quiet_load 34 (.tmp 134) rfl BI 30 11 41 rfl rfl (C := I) _ (after_blk hI) (by rw [sI]; decide) Try.underlying34 rfl (by kernel_rfl) ?_); go_big_quiet_on; simp only [Act.put, List.setIfInBounds_toArray, List.set_cons_succ, List.set_cons_zero])
      (go_big_quiet_step (first | (fail) | (go_at_call 13; exact quiet_after ((RX.on (After.h _)).r3.csame (RI.on (After.h _)).r3 (r := true) ⟨fun _ => rfl, fun _ => rfl⟩))); (try simp only [Bool.false_eq_true, ↓reduceIte]))
      (go_big_quiet_step (first | (fail)); (try simp only [Bool.false_eq_true, ↓reduceIte]))
      (go_big_quiet_step (first | (fail)); (try simp only [Bool.false_eq_true, ↓reduceIte]))
      (go_big_quiet_want; (refine quiet_field 46 (.tmp 2) 15 rfl w.heap.size 0 41 rfl (fieldM15 _) ?_); go_big_quiet_on; simp only [Act.put, List.setIfInBounds_toArray, List.set_cons_succ, List.set_cons_zero])
      as_aux_lemma =>
      (go_big_quiet_want; (refine quiet_load 37 (.tmp 139) rfl w.heap.size 41 2 43 rfl rfl (C := M) _ (after_blk hX) (by rw [sM]; decide) Try.underlying37 rfl (by kernel_rfl) ?_); go_big_quiet_on; simp only [Act.put, List.setIfInBounds_toArray, List.set_cons_succ, List.set_cons_zero])
      (go_big_quiet_want; (refine quiet_field 46 (.tmp 5) 15 rfl BI 0 41 rfl (fieldM15 _) ?_); go_big_quiet_on; simp only [Act.put, List.setIfInBounds_toArray, List.set_cons_succ, List.set_cons_zero])
      (go_big_quiet_want; (refine quiet_load 37 (.tmp 141) rfl BI 41 2 43 rfl rfl (C := I) _ (after_blk hI) (by rw [sI]; decide) Try.underlying37 rfl (by kernel_rfl) ?_); go_big_quiet_on; simp only [Act.put, List.setIfInBounds_toArray, List.set_cons_succ, List.set_cons_zero])
      (go_big_quiet_step (first | (fail) | (go_at_call 15; exact quiet_after ((RX.on (After.h _)).r4.csame (RI.on (After.h _)).r4 (r := true) ⟨fun _ => rfl, fun _ => rfl⟩))); (try simp only [Bool.false_eq_true, ↓reduceIte]))
      (go_big_quiet_step (first | (fail)); (try simp only [Bool.false_eq_true, ↓reduceIte]))
      (go_big_quiet_step (first | (fail)); (try simp only [Bool.false_eq_true, ↓reduceIte]))
      (go_big_quiet_want; (refine quiet_field 46 (.tmp 2) 16 rfl w.heap.size 0 43 rfl (fieldM16 _) ?_); go_big_quiet_on; simp only [Act.put, List.setIfInBounds_toArray, List.set_cons_succ, List.set_cons_zero])
      (go_big_quiet_want; (refine quiet_load 40 (.tmp 146) rfl w.heap.size 43 4 47 rfl rfl (C := M) _ (after_blk hX) (by rw [sM]; decide) Try.underlying40 rfl (by kernel_rfl) ?_); go_big_quiet_on; simp only [Act.put, List.setIfInBounds_toArray, List.set_cons_succ, List.set_cons_zero])
      (go_big_quiet_want; (refine quiet_field 46 (.tmp 5) 16 rfl BI 0 43 rfl (fieldM16 _) ?_); go_big_quiet_on; simp only [Act.put, List.setIfInBounds_toArray, List.set_cons_succ, List.set_cons_zero])
      (go_big_quiet_want; (refine quiet_load 40 (.tmp 148) rfl BI 43 4 47 rfl rfl (C := I) _ (after_blk hI) (by rw [sI]; decide) Try.underlying40 rfl (by kernel_rfl) ?_); go_big_quiet_on; simp only [Act.put, List.setIfInBounds_toArray, List.set_cons_succ, List.set_cons_zero])
      (go_big_quiet_step (first | (fail) | (go_at_call 17; exact quiet_after ((RX.on (After.h _)).r5.csame (RI.on (After.h _)).r5 (r := true) ⟨fun _ => rfl, fun _ => rfl⟩))); (try simp only [Bool.false_eq_true, ↓reduceIte]))
      (go_big_quiet_step (first | (fail)); (try simp only [Bool.false_eq_true, ↓reduceIte]))
      (go_big_quiet_step (first | (fail)); (try simp only [Bool.false_eq_true, ↓reduceIte]))
      (go_big_quiet_step (first | (fail) | (go_at_call 5; exact quiet_after (awake8_c _))); (try simp only [Bool.false_eq_true, ↓reduceIte]))
      (go_big_quiet_step (first | (fail)); (try simp only [Bool.false_eq_true, ↓reduceIte]))
      (go_big_quiet_step (first | (fail)); (try simp only [Bool.false_eq_true, ↓reduceIte]))
      refine wpQuiet_nil ?_
      rintro _ ⟨y3, rfl⟩
      have HE := (HB.out.trans y3.h)
      go_wp2
      go_ret
      exact ⟨rfl, HE⟩
set_option maxRecDepth 100000 in
theorem objSame_lifted (os : Os) (started : os.Started) (H : Type) (enc : TypeId × Value → H) :
    ReturnsInHanded {} Try.checked os 3 .any (Rows.objSameSpec.pre6 enc Try.prog Try.f3 Rows.objSameRow.domain false) (Rows.objSameSpec.post enc Try.prog Try.f3 false true false false) := by
  refine returnsInHanded_of_change_sized (C := Try.checked) own started (by kernel_rfl) Try.func3
    (ChangeSpec.witness6 (enc := enc) (C := Try.checked) false ⟨#[], #[.agg #[.int .u8 0, .int .u32 0, .int .i64 0, .int .i64 0, .int .i64 0, .int .i64 0, .int .i64 0, .int .u64 0, .int .u64 0, .string ⟨#[]⟩, .slice none 0 0, .int .i64 0, .int .i64 0, .int .i64 0, .int .i64 0, .int .i64 0, .int .i64 0, .int .i64 0, .slice none 0 0, .int .i64 0, .int .i64 0, .int .u8 0, .int .i64 0, .int .i64 0, .int .i64 0, .int .i64 0, .int .u8 0, .slice none 0 0, .int .i64 0, .int .i64 0, .int .i64 0, .string ⟨#[]⟩, .string ⟨#[]⟩, .int .i64 0, .int .i64 0, .int .i64 0, .slice none 0 0, .int .i64 0, .int .i64 0, .int .u64 0, .bool false, .int .i64 0, .slice none 0 0, .int .i64 0, .int .u8 0, .int .i64 0, .slice none 0 0, .int .i64 0, .int .i64 0, .int .i64 0, .int .i64 0, .int .i64 0], .agg #[.int .u8 0, .int .u32 0, .int .i64 0, .int .i64 0, .int .i64 0, .int .i64 0, .int .i64 0, .int .u64 0, .int .u64 0, .string ⟨#[]⟩, .slice none 0 0, .int .i64 0, .int .i64 0, .int .i64 0, .int .i64 0, .int .i64 0, .int .i64 0, .int .i64 0, .slice none 0 0, .int .i64 0, .int .i64 0, .int .u8 0, .int .i64 0, .int .i64 0, .int .i64 0, .int .i64 0, .int .u8 0, .slice none 0 0, .int .i64 0, .int .i64 0, .int .i64 0, .string ⟨#[]⟩, .string ⟨#[]⟩, .int .i64 0, .int .i64 0, .int .i64 0, .slice none 0 0, .int .i64 0, .int .i64 0, .int .u64 0, .bool false, .int .i64 0, .slice none 0 0, .int .i64 0, .int .u8 0, .int .i64 0, .slice none 0 0, .int .i64 0, .int .i64 0, .int .i64 0, .int .i64 0, .int .i64 0]], []⟩ 8 (by kernel_rfl) (by kernel_rfl) (by kernel_rfl) (by kernel_rfl)) ?_
  intro W base args ds gs before hval0 hW hcnd hsz _
  have hval : ∀ (j : Nat) t v, Try.f3.params[j]? = some t → args[j]? = some v → Value.okWide Try.prog W .any base t v := hval0
  have hW' := hW
  obtain ⟨p, q, hA0, hV, rfl, hfz, hnd⟩ := hW
  have hA : DataW.TrodAll enc Try.prog W 0 (fun _ => true) true Try.f3.params.toList args.toList ds p := hA0
  rw [Try.params3] at hA hval hsz
  obtain ⟨v0, vs0, d0, ds0, p0, q0, hargs, rfl, rfl, h0, r0⟩ := trodAll_cons hA
  obtain ⟨v1, vs1, d1, ds1, p1, q1, rfl, rfl, rfl, h1, r1⟩ := trodAll_cons r0
  obtain ⟨rfl, rfl, rfl⟩ := trodAll_nil r1
  obtain rfl : args = #[v0, v1] := by cases args; simp_all
  obtain ⟨rfl, rfl⟩ := trodVars_none hV
  have h0k := h0
  obtain ⟨x0, o0, rfl, f0⟩ := open_msg_few (hval 0 46 v0 rfl rfl) h0 hsz 0 rfl rfl
  have h1k := h1
  obtain ⟨x1, o1, rfl, f1⟩ := open_msg_few (hval 1 46 v1 rfl rfl) h1 hsz 1 rfl rfl
  clear hA0 hval0
  simp only [List.append_nil] at hW'
  refine (objSame_walk W x0 o0 f0 x1 o1 f1).mono fun e W' ⟨he, hg⟩ => ?_
  subst he
  have hlt : ∀ x ∈ p0 ++ (p1), x.block < W.heap.size := fun x hx => by simpa using hW'.lt x hx
  exact ⟨_, rfl, post_of_wider (pv := []) hW' (fun _ _ _ => (trodAll_cons_mk (shut_bool Try.underlying4 _) trodAll_mk0)) (fun sp hsp => (trodAll_cons_mk (WideElems.Trod_stays laid3 (by kernel_rfl) (of_decide_eq_true (by kernel_rfl)) h0k (fun x hx => wsame hg (hlt x (by simp [hx]))) (fun x hx => hsp x (by simp [hx]))) (trodAll_cons_mk (WideElems.Trod_stays laid3 (by kernel_rfl) (of_decide_eq_true (by kernel_rfl)) h1k (fun x hx => wsame hg (hlt x (by simp [hx]))) (fun x hx => hsp x (by simp [hx]))) trodAll_mk0))) (fun _ _ => rfl) (by simp)
    hg (ok_one (by kernel_rfl) rfl (okWide_bool_mk Try.underlying4 _))⟩

theorem objSame_holds : Rows.ObjSameSaid :=
  OpenClaim.holds_of_wide 3 Try.f3 rfl rfl rfl rfl rfl rfl rfl ⟨rfl, rfl, rfl, rfl, rfl⟩ rfl rfl rfl rfl rfl (by kernel_rfl) Try.func3 (by kernel_rfl)
    (of_decide_eq_true (by kernel_rfl)) (by unfold Func.isWrapper; first | (rw [if_pos (by decide +kernel)]; kernel_rfl) | (rw [if_neg (by decide +kernel)]; exact ⟨rfl, rfl⟩))
    (fun os started H enc _ => objSame_lifted os started H enc)

#print axioms objSame_holds

end Go.Proofs.Ytlldgmdgogkdiaa

