/- The law ObjNames: the examples; objects at their ends; what may not be said; bytes that are none. A closed statement. -/
import Derived.Test.YtlldgmdgogkdiaaGreatONamesM
import Derived.Test.YtlldgmdgogkdiaaGreatOAwake
import Derived.SizedLaws
namespace Go.Proofs.YtlldgmdgogkdiaaGreat
set_option linter.unusedVariables false
set_option maxRecDepth 20000
open Go.ChangeShapes Go.WideShapes Go.ChangeAt Go.RowKit Go.Joins
open Go.ChangeMaps (open_string shut_string)

theorem many_full (w : World) : Calls Tryz.prog 18 #[.int .i64 32, .int .i64 4, .int .i64 4, .int .i64 32, .int .i64 16] w fun r w' => ∃ M, r = .returned (.agg M) ∧ Wider w w' ∧ RepA w' M (manyV 32 4 4 32 16) ∧ M.all (·.oneCell') = true := many_c w 32 4 4 32 16 (by decide) (by decide) (by decide) (by decide) (by decide)
theorem many_over (w : World) : Calls Tryz.prog 18 #[.int .i64 33, .int .i64 5, .int .i64 5, .int .i64 33, .int .i64 17] w fun r w' => ∃ M, r = .returned (.agg M) ∧ Wider w w' ∧ RepA w' M (manyV 33 5 5 33 17) ∧ M.all (·.oneCell') = true := many_c w 33 5 5 33 17 (by decide) (by decide) (by decide) (by decide) (by decide)
theorem fieldWidth (g : Nat) (w : World) : (Instr.fieldAt 29 (.pointer (some ⟨g, 20, none⟩)) 4).run Tryz.prog w = .ok (.pointer (some ⟨g, 24, none⟩)) w := by
  have h := run_fieldAt (P := Tryz.prog) (i := 4) (n := 0) Tryz.underlying29 rfl (by kernel_rfl) w g 20
  simpa using h
theorem fieldRate (g : Nat) (w : World) : (Instr.fieldAt 42 (.pointer (some ⟨g, 47, none⟩)) 1).run Tryz.prog w = .ok (.pointer (some ⟨g, 48, none⟩)) w := by
  have h := run_fieldAt (P := Tryz.prog) (i := 1) (n := 0) Tryz.underlying42 rfl (by kernel_rfl) w g 47
  simpa using h
theorem fieldSize (g : Nat) (w : World) : (Instr.fieldAt 44 (.pointer (some ⟨g, 50, none⟩)) 1).run Tryz.prog w = .ok (.pointer (some ⟨g, 51, none⟩)) w := by
  have h := run_fieldAt (P := Tryz.prog) (i := 1) (n := 0) Tryz.underlying44 rfl (by kernel_rfl) w g 50
  simpa using h
theorem fieldKey (g : Nat) (w : World) : (Instr.fieldAt 34 (.pointer (some ⟨g, 30, none⟩)) 1).run Tryz.prog w = .ok (.pointer (some ⟨g, 31, none⟩)) w := by
  have h := run_fieldAt (P := Tryz.prog) (i := 1) (n := 0) Tryz.underlying34 rfl (by kernel_rfl) w g 30
  simpa using h
theorem over_rep {w : World} {N : Array Value} (R : RepA w N (manyV 33 5 5 33 17)) : N[24]? = some (.int .i64 2147483647) ∧ (∃ v, N[48]? = some v) ∧ (∃ v, N[51]? = some v) ∧ RepA w (((N.setIfInBounds 24 (.int .i64 2147483648)).setIfInBounds 48 (.int .i64 (-1))).setIfInBounds 51 (.int .i64 (-1))) overV := by
  have sN := R.size
  obtain ⟨v0, v1, v2, v3, v4, h1, e1, w0, w1, w2, w3, w4⟩ := R.r1
  obtain ⟨x0, x1, x2, h6, e6, y0, y1, y2⟩ := R.r6
  obtain ⟨z0, z1, h7, e7, u0, u1⟩ := R.r7
  simp only [manyV, List.cons.injEq, ValN.num.injEq, and_true] at e1 e6 e7
  obtain ⟨rfl, rfl, rfl, rfl, rfl⟩ := e1
  obtain ⟨rfl, rfl, rfl⟩ := e6
  obtain ⟨rfl, rfl⟩ := e7
  have k : (((N.setIfInBounds 24 (.int .i64 2147483648)).setIfInBounds 48 (.int .i64 (-1))).setIfInBounds 51 (.int .i64 (-1))).size = 52 := by simp [sN]
  refine ⟨cell_of 4 (by rw [h1]; rfl) (by rw [sN]; decide) rfl, ⟨_, cell_of 1 (by rw [h6]; rfl) (by rw [sN]; decide) rfl⟩, ⟨_, cell_of 1 (by rw [h7]; rfl) (by rw [sN]; decide) rfl⟩, k, ?_, ?_, ?_, ?_, ?_, ?_, ?_, ?_⟩
  · rw [set_out (.int .i64 (-1)) (by decide) (by simp [sN]), set_out (.int .i64 (-1)) (by decide) (by simp [sN]), set_out (.int .i64 2147483648) (by decide) (by simp [sN])]; exact R.r0
  · rw [set_out (.int .i64 (-1)) (by decide) (by simp [sN]), set_out (.int .i64 (-1)) (by decide) (by simp [sN]), set_in (.int .i64 2147483648) (by decide) (by decide) (by simp [sN])]; rw [h1]; exact ⟨2147483647, 255, 2147483647, 2147483647, 2147483648, rfl, rfl, rfl, rfl, rfl, rfl, rfl⟩
  · rw [set_out (.int .i64 (-1)) (by decide) (by simp [sN]), set_out (.int .i64 (-1)) (by decide) (by simp [sN]), set_out (.int .i64 2147483648) (by decide) (by simp [sN])]; exact R.r2
  · rw [set_out (.int .i64 (-1)) (by decide) (by simp [sN]), set_out (.int .i64 (-1)) (by decide) (by simp [sN]), set_out (.int .i64 2147483648) (by decide) (by simp [sN])]; exact R.r3
  · rw [set_out (.int .i64 (-1)) (by decide) (by simp [sN]), set_out (.int .i64 (-1)) (by decide) (by simp [sN]), set_out (.int .i64 2147483648) (by decide) (by simp [sN])]; exact R.r4
  · rw [set_out (.int .i64 (-1)) (by decide) (by simp [sN]), set_out (.int .i64 (-1)) (by decide) (by simp [sN]), set_out (.int .i64 2147483648) (by decide) (by simp [sN])]; exact R.r5
  · rw [set_out (.int .i64 (-1)) (by decide) (by simp [sN]), set_in (.int .i64 (-1)) (by decide) (by decide) (by simp [sN]), set_out (.int .i64 2147483648) (by decide) (by simp [sN])]; rw [h6]; exact ⟨2147483647, -1, 9223372036854775807, rfl, rfl, rfl, rfl, rfl⟩
  · rw [set_in (.int .i64 (-1)) (by decide) (by decide) (by simp [sN]), set_out (.int .i64 (-1)) (by decide) (by simp [sN]), set_out (.int .i64 2147483648) (by decide) (by simp [sN])]; rw [h7]; exact ⟨2147483647, -1, rfl, rfl, rfl, rfl⟩
theorem full_key {w : World} {M : Array Value} (R : RepA w M (manyV 32 4 4 32 16)) : M[31]? = some (.string keyM) := by
  have sM := R.size
  obtain ⟨v0, v3, v4, v5, v7, v8, v9, v1, v2, v10, A, n, cap, L, hc, hv, _⟩ := R.r3
  simp only [manyV, List.cons.injEq, ValN.num.injEq, ValN.txt.injEq, ValN.lst.injEq, and_true] at hv
  obtain ⟨_, rfl, _⟩ := hv
  exact cell_of 1 (by rw [hc]; rfl) (by rw [sM]; decide) rfl
theorem own_some {w : World} {b size n cap : Nat} {E : TypeId} {A : Option Addr} {xs : List Value} (h : w.ownsRow b E size (.slice A n cap) n xs) (hn : 0 < n) : ∃ g C t, A = some ⟨g, 0, none⟩ ∧ w.heap[g]? = some (.cells C t (0, 0)) ∧ C.toList.take (n * size) = xs := by
  rcases h.2 with ⟨_, q⟩ | ⟨g, cp, cur, q, _, hh, _, _, _, ht⟩
  · omega
  · injection q with q1 q2 q3
    exact ⟨g, cur, E, q1, hh, ht⟩
theorem full_some (k : Nat) (hk : k < 8) : manyV 32 4 4 32 16 k ≠ zeroG (csKind k) := by
  refine all8 (p := fun k => manyV 32 4 4 32 16 k ≠ zeroG (csKind k)) ?_ ?_ ?_ ?_ ?_ ?_ ?_ ?_ k hk <;>
  · intro e
    injection e with e
    injection e with e
    exact absurd e (by decide)
theorem enc_some {k : Nat} (hk : k < 8) {T : ByteArray} (hT : encG (csKind k) (manyV 32 4 4 32 16 k) = T) : T.size ≠ 0 := by
  intro e
  refine full_some k hk (encG_empty (csKind k) _ (full_ok k hk) (csKind_cap k) (by have := csKind_length k; omega) ?_)
  rw [hT]; exact empty_of T e
theorem quiet_cell {P : Program} {op : Oper} {a : Act} {Cl : World → Prop} {K : Act → Prop} (ty : TypeId) (x : Operand) (hop : op.op = .load ty x)
    (g o : Nat) (hx : a.eval x = .pointer (some ⟨g, o, none⟩)) {v : Value} (hg : ∀ w, Cl w → w.cell? ⟨g, o, none⟩ = some v) (d : TypeDesc)
    (hu : P.underlying ty = some d) (hd : d.isRow = false) (h : K (a.put op.dst v)) : op.quiet P a Cl K :=
  ⟨_, fun w hw => by
    have hagg : (isAgg ty).run P w = .ok false w := by
      unfold isAgg
      rw [Sem.run_bind, run_underlying hu w]
      cases d <;> simp_all
    have q : (Instr.loadAt ty (.pointer (some ⟨g, o, none⟩))).run P w = .ok v w := by
      simp [Instr.loadAt, Instr.sureAddr, loadVar, Sem.run_bind, hagg, hg w hw]
    unfold Oper.quietAt execOp; simp only [hop, hx, Sem.run_bind, q, Result.andThen_ok, Sem.run_pure]; exact ⟨rfl, rfl⟩, h⟩
def entA0 (KX : ByteArray) : Array Value := #[.int .i64 0, .string KX, .string ⟨#[]⟩, .int .i64 0, .int .i64 0, .int .i64 0, .slice none 0 0, .int .i64 0, .int .i64 0, .int .u64 0, .bool false]
theorem entB0 (KX : ByteArray) (w : World) : (Instr.build 34 #[(1, .string KX)]).run Tryz.prog w = .ok (.agg (entA0 KX)) w := run_build w _ _ (entA0 KX) (by kernel_rfl)
def entA1 (KX : ByteArray) : Array Value := #[.int .i64 0, .string ⟨#[]⟩, .string KX, .int .i64 0, .int .i64 0, .int .i64 0, .slice none 0 0, .int .i64 0, .int .i64 0, .int .u64 0, .bool false]
theorem entB1 (KX : ByteArray) (w : World) : (Instr.build 34 #[(2, .string KX)]).run Tryz.prog w = .ok (.agg (entA1 KX)) w := run_build w _ _ (entA1 KX) (by kernel_rfl)
def entA2 : Array Value := #[.int .i64 0, .string ⟨#[]⟩, .string ⟨#[]⟩, .int .i64 0, .int .i64 0, .int .i64 0, .slice none 0 0, .int .i64 (-1), .int .i64 0, .int .u64 0, .bool false]
theorem entB2 (w : World) : (Instr.build 34 #[(7, .int .i64 (-1))]).run Tryz.prog w = .ok (.agg (entA2)) w := run_build w _ _ (entA2) (by kernel_rfl)
def entA3 : Array Value := #[.int .i64 0, .string ⟨#[]⟩, .string ⟨#[]⟩, .int .i64 0, .int .i64 0, .int .i64 0, .slice none 0 0, .int .i64 0, .int .i64 (-1), .int .u64 0, .bool false]
theorem entB3 (w : World) : (Instr.build 34 #[(8, .int .i64 (-1))]).run Tryz.prog w = .ok (.agg (entA3)) w := run_build w _ _ (entA3) (by kernel_rfl)
def entA4 : Array Value := #[.int .i64 0, .string ⟨#[]⟩, .string ⟨#[]⟩, .int .i64 0, .int .i64 (-1), .int .i64 0, .slice none 0 0, .int .i64 0, .int .i64 0, .int .u64 0, .bool false]
theorem entB4 (w : World) : (Instr.build 34 #[(4, .int .i64 (-1))]).run Tryz.prog w = .ok (.agg (entA4)) w := run_build w _ _ (entA4) (by kernel_rfl)
def entA5 : Array Value := #[.int .i64 2147483648, .string ⟨#[]⟩, .string ⟨#[]⟩, .int .i64 0, .int .i64 0, .int .i64 0, .slice none 0 0, .int .i64 0, .int .i64 0, .int .u64 0, .bool false]
theorem entB5 (w : World) : (Instr.build 34 #[(0, .int .i64 2147483648)]).run Tryz.prog w = .ok (.agg (entA5)) w := run_build w _ _ (entA5) (by kernel_rfl)
def entS (KX : ByteArray) : Array Value := #[.int .i64 0, .string KX, .string ⟨#[]⟩, .int .i64 0, .int .i64 0, .int .i64 0, .slice none 0 0, .int .i64 0, .int .i64 0, .int .u64 0, .bool false, .int .i64 0, .string ⟨#[]⟩, .string KX, .int .i64 0, .int .i64 0, .int .i64 0, .slice none 0 0, .int .i64 0, .int .i64 0, .int .u64 0, .bool false, .int .i64 0, .string ⟨#[]⟩, .string ⟨#[]⟩, .int .i64 0, .int .i64 0, .int .i64 0, .slice none 0 0, .int .i64 (-1), .int .i64 0, .int .u64 0, .bool false, .int .i64 0, .string ⟨#[]⟩, .string ⟨#[]⟩, .int .i64 0, .int .i64 0, .int .i64 0, .slice none 0 0, .int .i64 0, .int .i64 (-1), .int .u64 0, .bool false, .int .i64 0, .string ⟨#[]⟩, .string ⟨#[]⟩, .int .i64 0, .int .i64 (-1), .int .i64 0, .slice none 0 0, .int .i64 0, .int .i64 0, .int .u64 0, .bool false, .int .i64 2147483648, .string ⟨#[]⟩, .string ⟨#[]⟩, .int .i64 0, .int .i64 0, .int .i64 0, .slice none 0 0, .int .i64 0, .int .i64 0, .int .u64 0, .bool false]
theorem entS_size (KX : ByteArray) : (entS KX).size = 66 := rfl
theorem entSlice (KX : ByteArray) (w : World) : (Instr.buildSlice 60 6 #[(0, .agg (entA0 KX)), (1, .agg (entA1 KX)), (2, .agg entA2), (3, .agg entA3), (4, .agg entA4), (5, .agg entA5)]).run Tryz.prog w = .ok (.slice (some ⟨w.heap.size, 0, none⟩) 6 6) (w.alloc (.cells (entS KX) 34)) := by kernel_rfl
theorem fieldOB2 {B : Nat} (w : World) : (Instr.fieldAt 34 (.pointer (some ⟨B, 0, none⟩)) 10).run Tryz.prog w = .ok (.pointer (some ⟨B, 10, none⟩)) w := by
  have h := run_fieldAt (P := Tryz.prog) (i := 10) (n := 0) Tryz.underlying34 rfl (by kernel_rfl) w B 0
  simpa using h
theorem fieldOB4 {B : Nat} (w : World) : (Instr.fieldAt 27 (.pointer (some ⟨B, 0, none⟩)) 7).run Tryz.prog w = .ok (.pointer (some ⟨B, 7, none⟩)) w := by
  have h := run_fieldAt (P := Tryz.prog) (i := 7) (n := 0) Tryz.underlying27 rfl (by kernel_rfl) w B 0
  simpa using h
theorem fieldOB5 {B : Nat} (w : World) : (Instr.fieldAt 32 (.pointer (some ⟨B, 0, none⟩)) 2).run Tryz.prog w = .ok (.pointer (some ⟨B, 2, none⟩)) w := by
  have h := run_fieldAt (P := Tryz.prog) (i := 2) (n := 0) Tryz.underlying32 rfl (by kernel_rfl) w B 0
  simpa using h
set_option maxHeartbeats 64000000 in
theorem objNames_walk (w : World) : Calls Tryz.prog 5 #[] w fun e w' => e = .returned (.bool true) ∧ Wider w w' := by
  have H : Wider w w := Wider.refl w
  go_enter Tryz.func5, Tryz.ntmps5
  go_upto_region 3 with (first
    | (go_at_call 10; (with_reducible refine (awake8_c _).mono ?_); rintro e wN ⟨rfl, gN⟩; replace H := H.trans gN; clear gN))
  go_upto_region 4 with (first
    | (go_at_call 18; (refine (many_full _).mono ?_); rintro e wQ ⟨M, rfl, gQ, RM, oM⟩; have sM := RM.size)
    | (with_reducible refine wpList_store_row rfl 46 (.tmp 1) (.tmp 36) rfl wQ.heap.size M rfl rfl 46 zM (heap_alloc_new wQ _) (by rw [sM]; kernel_rfl) (by rw [sM]; exact zM_size) oM ?_))
  have HS := (setRow_facts M (heap_alloc_new wQ (.cells zM 46))).1
  have hM := (setRow_facts M (heap_alloc_new wQ (.cells zM 46))).2
  have H2 := HS.wider (gQ.alloc _) (fun i m => by simp only [List.mem_singleton] at m; subst m; exact gQ.2)
  have H3 := HS.wider ((Wider.refl wQ).alloc _) (fun i m => by simp only [List.mem_singleton] at m; subst m; exact Nat.le_refl _)
  replace RM := RM.on H3
  replace H := H.trans H2
  clear HS H2 H3 oM gQ
  obtain ⟨BM, hBe⟩ : ∃ B, wQ.heap.size = B := ⟨_, rfl⟩
  obtain ⟨wM, hwS⟩ : ∃ wS, (wQ.alloc (.cells zM 46)).setRow wQ.heap.size M = wS := ⟨_, rfl⟩
  rw [hwS] at hM RM H ⊢
  rw [hBe] at hM ⊢
  clear hwS hBe
  go_upto_region 5 with (first
    | (go_at_call 18; (refine (many_over _).mono ?_); rintro e wQ ⟨N, rfl, gQ, RN, oN⟩; have sN := RN.size)
    | (with_reducible refine wpList_store_row rfl 46 (.tmp 2) (.tmp 37) rfl wQ.heap.size N rfl rfl 46 zM (heap_alloc_new wQ _) (by rw [sN]; kernel_rfl) (by rw [sN]; exact zM_size) oN ?_))
  obtain ⟨e24, ⟨x48, e48⟩, ⟨x51, e51⟩, RV⟩ := over_rep RN
  have HO := (Own.nil (Wider.refl wQ)).blk zM 46
  have HS := (setRow_facts N (heap_alloc_new wQ (.cells zM 46)))
  replace HO := HO.turn (s := blkT wQ.heap.size N 46) HS.1 HS.2 (blk_stable _ _ _) (fun i m => ⟨.inl m, by simp only [List.mem_singleton] at m; subst m; exact (Array.getElem?_eq_some_iff.1 HS.2).1⟩)
  replace H := H.trans gQ
  replace RM := RM.on gQ
  replace hM := wide_blk hM gQ
  clear HS oN RN gQ
  obtain ⟨BO, hBe⟩ : ∃ B, wQ.heap.size = B := ⟨_, rfl⟩
  obtain ⟨w4, hwS⟩ : ∃ wS, (wQ.alloc (.cells zM 46)).setRow wQ.heap.size N = wS := ⟨_, rfl⟩
  rw [hwS] at HO ⊢
  rw [hBe] at HO ⊢
  clear hwS hBe
  have hc := blk_cell HO.head 24 e24
  have hf := blk_free HO.head 24
  go_upto_region 6 with (first
    | (with_reducible refine wpList_field rfl 46 (.tmp 2) 12 rfl BO 0 20 rfl (fieldM12 _) ?_)
    | (with_reducible refine wpList_field rfl 29 (.tmp 38) 4 rfl BO 20 24 rfl (fieldWidth _ _) ?_)
    | (with_reducible refine wpList_field rfl 46 (.tmp 2) 12 rfl BO 0 20 rfl (fieldM12 _) ?_)
    | (with_reducible refine wpList_field rfl 29 (.tmp 42) 4 rfl BO 20 24 rfl (fieldWidth _ _) ?_))
  replace HO := HO.store 24 (.int .i64 2147483648)
  clear hc hf
  obtain ⟨w5, hwS⟩ : ∃ wS, w4.setCell ⟨BO, 24, none⟩ (.int .i64 2147483648) = wS := ⟨_, rfl⟩
  rw [hwS] at HO ⊢
  clear hwS
  replace e48 := (Array.getElem?_setIfInBounds_ne (xs := N) (i := 24) (a := .int .i64 2147483648) (by decide)).trans e48
  have hc := blk_cell HO.head 48 e48
  have hf := blk_free HO.head 48
  go_upto_region 7 with (first
    | (with_reducible refine wpList_field rfl 46 (.tmp 2) 17 rfl BO 0 47 rfl (fieldM17 _) ?_)
    | (with_reducible refine wpList_field rfl 42 (.tmp 44) 1 rfl BO 47 48 rfl (fieldRate _ _) ?_))
  replace HO := HO.store 48 (.int .i64 (-1))
  clear hc hf
  obtain ⟨w6, hwS⟩ : ∃ wS, w5.setCell ⟨BO, 48, none⟩ (.int .i64 (-1)) = wS := ⟨_, rfl⟩
  rw [hwS] at HO ⊢
  clear hwS
  replace e51 := (Array.getElem?_setIfInBounds_ne (xs := N.setIfInBounds 24 (.int .i64 2147483648)) (i := 48) (a := .int .i64 (-1)) (by decide)).trans ((Array.getElem?_setIfInBounds_ne (xs := N) (i := 24) (a := .int .i64 2147483648) (by decide)).trans e51)
  have hc := blk_cell HO.head 51 e51
  have hf := blk_free HO.head 51
  go_upto_region 8 with (first
    | (with_reducible refine wpList_field rfl 46 (.tmp 2) 18 rfl BO 0 50 rfl (fieldM18 _) ?_)
    | (with_reducible refine wpList_field rfl 44 (.tmp 46) 1 rfl BO 50 51 rfl (fieldSize _ _) ?_))
  replace HO := HO.store 51 (.int .i64 (-1))
  clear hc hf
  obtain ⟨w7, hwS⟩ : ∃ wS, w6.setCell ⟨BO, 51, none⟩ (.int .i64 (-1)) = wS := ⟨_, rfl⟩
  rw [hwS] at HO ⊢
  clear hwS
  obtain ⟨V3, hV3⟩ : ∃ x, ((N.setIfInBounds 24 (.int .i64 2147483648)).setIfInBounds 48 (.int .i64 (-1))).setIfInBounds 51 (.int .i64 (-1)) = x := ⟨_, rfl⟩
  rw [hV3] at HO RV
  clear hV3 e24 e48 e51
  replace RM := RM.on HO.wider
  replace hM := wide_blk hM HO.wider
  replace RV := RV.on HO.wider
  have hV := HO.head
  have sV := RV.size
  have HB := Lib.hid (H.trans HO.wider)
  clear HO H
  go_wp2
  go_loopw [3] (fun i wr => ∃ k : Nat, k ≤ 8 ∧ i = .int .i64 (k : Int) ∧ Wider w7 wr) (fun i _ => 8 - (intOf i).toNat)
  case atStart => exact ⟨0, by omega, by simp, Wider.refl w7⟩
  case round =>
    obtain ⟨k, hk, rfl, H0⟩ := hrel
    by_cases ck : k < 8
    · as_aux_lemma =>
      have j0 : (0 : Int) ≤ (k : Int) := by omega
      have j1 : (k : Int) < 8 := by omega
      have H : Wider wr wr := Wider.refl wr
      have HC := HB
      replace HB := Lib.hid H0
      replace RM := RM.on H0
      replace hM := wide_blk hM H0
      replace RV := RV.on H0
      replace hV := wide_blk hV H0
      clear H0
      obtain ⟨T2, hT2⟩ : ∃ T2, encG (csKind k) (manyV 32 4 4 32 16 k) = T2 := ⟨_, rfl⟩
      have hne := enc_some ck hT2
      obtain ⟨n1, n2⟩ := ne_empty T2 hne
      have ok := put_ok (full_ok k ck)
      have ht := decG_enc (csKind k) _ (full_ok k ck) (csKind_cap k) (by have := csKind_length k; omega)
      have hts := encG_small (full_ok k ck)
      rw [hT2] at ok ht hts
      have zz : okG (csKind k) (oneV k (manyV 32 4 4 32 16 k) k) ∧ PutG (csKind k) (oneV k (manyV 32 4 4 32 16 k) k) T2 0 := by rw [oneV_self]; exact ⟨full_ok k ck, ok.2⟩
      have nn : ¬ okG (csKind k) (overV k) ∧ PutG (csKind k) (overV k) ⟨#[]⟩ 3 := ⟨over_no k ck, .inr ⟨over_no k ck, rfl, rfl⟩⟩
      replace ok := Lib.hid ok
      replace zz := Lib.hid zz
      replace nn := Lib.hid nn
      obtain ⟨r0, hr0⟩ : ∃ r0 : Nat, r0 = 0 := ⟨0, rfl⟩
      rw [← hr0] at ht
      have dr0 : ((r0 : Int) == 0) = true := by rw [hr0]; rfl
      have dr1 : ((r0 : Int) != 0) = false := by rw [hr0]; rfl
      have zt := fun W : World => readsA T2 W (by omega) k ck ht
      clear ht hts hT2 hne hr0
      go_upto_region 11 with (fail)
      refine wp_region_plain H ?_
      repeat (first
        | (go_big_quiet_want; (refine quiet_row 46 (.tmp 1) rfl BM rfl (C := M) _ (after_blk hM) Tryz.underlying46 rfl (by rw [sM]; kernel_rfl) ?_); go_big_quiet_on; simp only [Act.put, List.setIfInBounds_toArray, List.set_cons_succ, List.set_cons_zero])
        | (go_big_quiet_step (first | (fail) | (go_at_call 12; exact quiet_after ((RM.on (After.h _)).puts k ck (b := true) ⟨fun _ => ok.out.1.1 rfl, fun _ => rfl⟩ ok.out.2))); (try simp only [Bool.false_eq_true, ↓reduceIte])))
      refine wpQuiet_nil ?_
      rintro _ ⟨y1, rfl⟩
      replace H := y1.h
      go_upto_region 12 with (fail)
      go_upto_region 13 with (first
        | (go_at_call 16; (with_reducible refine (zt _).mono ?_); rintro e wN ⟨X, rfl, gN, RX, oX⟩; replace H := H.trans gN; clear gN; have sX := RX.size)
        | (with_reducible refine wpList_extract rfl (.tmp 59) 0 rfl rfl rfl ?_)
        | (with_reducible refine wpList_extract rfl (.tmp 59) 1 rfl rfl rfl ?_)
        | (with_reducible refine wpList_store_row rfl 46 (.tmp 7) (.tmp 63) rfl wN.heap.size X rfl rfl 46 zM (heap_alloc_new wN _) (by rw [sX]; kernel_rfl) (by rw [sX]; exact zM_size) oX ?_))
      (try simp only [List.getElem?_cons_zero, Option.getD_some])
      have HS := (setRow_facts X (heap_alloc_new wN (.cells zM 46))).1
      have hX := (setRow_facts X (heap_alloc_new wN (.cells zM 46))).2
      have H2 := HS.wider (H.alloc _) (fun i m => by simp only [List.mem_singleton] at m; subst m; exact H.2)
      have H3 := HS.wider ((Wider.refl wN).alloc _) (fun i m => by simp only [List.mem_singleton] at m; subst m; exact Nat.le_refl _)
      replace RX := RX.on H3
      clear HS H3 oX
      obtain ⟨BX, hBe⟩ : ∃ B, wN.heap.size = B := ⟨_, rfl⟩
      obtain ⟨wX, hwS⟩ : ∃ wS, (wN.alloc (.cells zM 46)).setRow wN.heap.size X = wS := ⟨_, rfl⟩
      rw [hwS] at hX H2 RX ⊢
      rw [hBe] at hX ⊢
      clear hwS hBe H
      replace RM := RM.on H2
      replace RV := RV.on H2
      replace hM := wide_blk hM H2
      replace hV := wide_blk hV H2
      replace HB := Lib.hid (HB.out.trans H2)
      have H : Wider wX wX := Wider.refl _
      clear H2
      refine wp_region_plain H ?_
      repeat (first
        | (go_big_quiet_want; (refine quiet_row 46 (.tmp 7) rfl BX rfl (C := X) _ (after_blk hX) Tryz.underlying46 rfl (by rw [sX]; kernel_rfl) ?_); go_big_quiet_on; simp only [Act.put, List.setIfInBounds_toArray, List.set_cons_succ, List.set_cons_zero])
        | (go_big_quiet_step (first | (fail) | (go_at_call 12; exact quiet_after ((RX.on (After.h _)).puts k ck (b := true) ⟨fun _ => zz.out.1, fun _ => rfl⟩ zz.out.2))); (try simp only [Bool.false_eq_true, ↓reduceIte])))
      refine wpQuiet_nil ?_
      rintro _ ⟨y2, rfl⟩
      replace H := y2.h
      go_upto_region 14 with (fail)
      refine wp_region_plain H ?_
      repeat (first
        | (go_big_quiet_want; (refine quiet_row 46 (.tmp 2) rfl BO rfl (C := V3) _ (after_blk hV) Tryz.underlying46 rfl (by rw [sV]; kernel_rfl) ?_); go_big_quiet_on; simp only [Act.put, List.setIfInBounds_toArray, List.set_cons_succ, List.set_cons_zero])
        | (go_big_quiet_step (first | (fail) | (go_at_call 12; exact quiet_after ((RV.on (After.h _)).puts k ck (b := false) ⟨fun e => (by cases e), fun e => absurd e nn.out.1⟩ nn.out.2))); (try simp only [Bool.false_eq_true, ↓reduceIte])))
      refine wpQuiet_nil ?_
      rintro _ ⟨y3, rfl⟩
      replace H := y3.h
      have HE := HB.out.trans H
      have nt : (T2.toList == T2.toList) = true := beq_self_eq_true _
      have nt2 : (T2.toList != T2.toList) = false := bne_self_eq_false _
      go_wp2
      go_roundw
      case rel => exact ⟨k + 1, by omega, by go_num, HE⟩
      case measure => simp [intOf]; omega
    · have j1 : ¬ (k : Int) < 8 := by omega
      clear hV RV sV
      replace HB := Lib.hid (HB.out.trans H0)
      replace RM := RM.on H0
      replace hM := wide_blk hM H0
      have hk31 := full_key RM
      clear RM
      go_upto_region 18 with (fail)
      have hS := heap_alloc_new wr (.cells #[Value.string ⟨#[0]⟩, Value.string ⟨#[99, 0, 1, 97]⟩, Value.string ⟨#[1, 0, 5, 1, 0, 0, 0, 0]⟩, Value.string ⟨#[1, 0, 1, 1, 12, 0, 1, 1]⟩] 9)
      have G1 := (Wider.refl wr).alloc (.cells #[Value.string ⟨#[0]⟩, Value.string ⟨#[99, 0, 1, 97]⟩, Value.string ⟨#[1, 0, 5, 1, 0, 0, 0, 0]⟩, Value.string ⟨#[1, 0, 1, 1, 12, 0, 1, 1]⟩] 9)
      have hcS : ∀ (j : Nat) (s : ByteArray), badL[j]? = some s → (#[Value.string ⟨#[0]⟩, Value.string ⟨#[99, 0, 1, 97]⟩, Value.string ⟨#[1, 0, 5, 1, 0, 0, 0, 0]⟩, Value.string ⟨#[1, 0, 1, 1, 12, 0, 1, 1]⟩] : Array Value)[j]? = some (Value.string s) := by
        intro j s h
        match j, h with
        | 0, h => injection h with h; subst h; rfl
        | 1, h => injection h with h; subst h; rfl
        | 2, h => injection h with h; subst h; rfl
        | 3, h => injection h with h; subst h; rfl
        | j + 4, h => simp [badL] at h
      obtain ⟨CS, hCS⟩ : ∃ x, (#[Value.string ⟨#[0]⟩, Value.string ⟨#[99, 0, 1, 97]⟩, Value.string ⟨#[1, 0, 5, 1, 0, 0, 0, 0]⟩, Value.string ⟨#[1, 0, 1, 1, 12, 0, 1, 1]⟩] : Array Value) = x := ⟨_, rfl⟩
      rw [hCS] at hS G1 hcS
      obtain ⟨BS, hBS⟩ : ∃ x, wr.heap.size = x := ⟨_, rfl⟩
      obtain ⟨wS, hwS⟩ : ∃ x, wr.alloc (.cells CS 9) = x := ⟨_, rfl⟩
      rw [hwS] at hS G1
      rw [hBS] at hS
      rw [hCS, hwS, hBS]
      replace hM := wide_blk hM G1
      replace HB := Lib.hid (HB.out.trans G1)
      clear hCS hwS hBS G1 H0
      go_wp2
      go_loopw [115] (fun i wq => ∃ j : Nat, j ≤ 4 ∧ i = .int .i64 (j : Int) ∧ Wider wS wq) (fun i _ => 4 - (intOf i).toNat)
      case atStart => exact ⟨0, by omega, by simp, Wider.refl wS⟩
      case round =>
        obtain ⟨j, hj, rfl, H1⟩ := hrel
        by_cases cj : j < 4
        · as_aux_lemma =>
          have j2 : (0 : Int) ≤ (j : Int) := by omega
          have j3 : (j : Int) < 4 := by omega
          obtain ⟨s, hs⟩ : ∃ s, badL[j]? = some s := next_some badL j cj
          obtain ⟨hss, hbad⟩ := badL_dec s (List.mem_of_getElem? hs)
          have cq := blk_cell (wide_blk hS H1) j (hcS j s hs)
          have hs5 : Hid (s.size < 1000000) := hss
          have HBD := Lib.hid hbad
          clear hs hss hbad hcS hS hM hk31
          go_wp2
          go_loopw [17] (fun i wq => ∃ k : Nat, k ≤ 8 ∧ i = .int .i64 (k : Int) ∧ Wider wS wq) (fun i _ => 8 - (intOf i).toNat)
          case atStart => exact ⟨0, by omega, by simp, H1⟩
          case round =>
            obtain ⟨k, hk2, rfl, H2⟩ := hrel
            clear H1
            by_cases ck2 : k < 8
            · have j4 : (0 : Int) ≤ (k : Int) := by omega
              have j5 : (k : Int) < 8 := by omega
              obtain ⟨c, hc0, hd⟩ := HBD.out k ck2
              have d0 : ((c : Int) == 0) = false := by rw [beq_eq_false_iff_ne]; omega
              have d1 : ((c : Int) != 0) = true := by rw [bne_iff_ne]; omega
              have zs := fun W : World => readsA s W hs5.out k ck2 hd
              have hz : ∀ j, j < 8 → oneV k (zeroG (csKind k)) j = zV j := (oneV_eq0 ck2).2 rfl
              replace hz := Lib.hid hz
              have HC := HB
              replace HB := Lib.hid H2
              have H := Wider.refl wr
              clear hd hc0 H2
              go_upto_region 23 with (fail)
              go_upto_region 24 with (first
                | (go_at_call 16; (with_reducible refine (zs _).mono ?_); rintro e wN ⟨Z, rfl, gN, RZ, oZ⟩; replace H := H.trans gN; clear gN; have sZ := RZ.size)
                | (with_reducible refine wpList_extract rfl (.tmp 123) 0 rfl rfl rfl ?_)
                | (with_reducible refine wpList_extract rfl (.tmp 123) 1 rfl rfl rfl ?_)
                | (with_reducible refine wpList_store_row rfl 46 (.tmp 18) (.tmp 127) rfl wN.heap.size Z rfl rfl 46 zM (heap_alloc_new wN _) (by rw [sZ]; kernel_rfl) (by rw [sZ]; exact zM_size) oZ ?_))
              (try simp only [List.getElem?_cons_zero, Option.getD_some])
              have HS := (setRow_facts Z (heap_alloc_new wN (.cells zM 46))).1
              have hZ := (setRow_facts Z (heap_alloc_new wN (.cells zM 46))).2
              have H2 := HS.wider (H.alloc _) (fun i m => by simp only [List.mem_singleton] at m; subst m; exact H.2)
              have H3 := HS.wider ((Wider.refl wN).alloc _) (fun i m => by simp only [List.mem_singleton] at m; subst m; exact Nat.le_refl _)
              replace RZ := RZ.on H3
              clear HS H3 oZ
              obtain ⟨BZ, hBe⟩ : ∃ B, wN.heap.size = B := ⟨_, rfl⟩
              obtain ⟨wZ, hwS⟩ : ∃ wS, (wN.alloc (.cells zM 46)).setRow wN.heap.size Z = wS := ⟨_, rfl⟩
              rw [hwS] at hZ H2 RZ ⊢
              rw [hBe] at hZ ⊢
              clear hwS hBe H
              replace HB := Lib.hid (HB.out.trans H2)
              have H : Wider wZ wZ := Wider.refl _
              clear H2
              refine wp_region_plain H ?_
              repeat (first
                | (go_big_quiet_want; (refine quiet_row 46 (.tmp 18) rfl BZ rfl (C := Z) _ (after_blk hZ) Tryz.underlying46 rfl (by rw [sZ]; kernel_rfl) ?_); go_big_quiet_on; simp only [Act.put, List.setIfInBounds_toArray, List.set_cons_succ, List.set_cons_zero])
                | (go_big_quiet_want; (refine quiet_build 46 #[] rfl (ps := #[]) rfl build0 ?_); go_big_quiet_on; simp only [Act.put, List.setIfInBounds_toArray, List.set_cons_succ, List.set_cons_zero])
                | (go_big_quiet_step (first | (fail) | (go_at_call 14; exact quiet_after (same_c _ (RZ.on (After.h _)) (zM_rep _) (r := true) ⟨fun _ => hz.out, fun _ => rfl⟩))); (try simp only [Bool.false_eq_true, ↓reduceIte])))
              refine wpQuiet_nil ?_
              rintro _ ⟨y4, rfl⟩
              replace H := y4.h
              have HE := HB.out.trans H
              go_wp2
              go_roundw
              case rel => exact ⟨k + 1, by omega, by go_num, HE⟩
              case measure => simp [intOf]; omega
            · have j5 : ¬ (k : Int) < 8 := by omega
              go_wp2
              go_roundw
              case rel => exact ⟨j + 1, by omega, by go_num, H2⟩
              case measure => simp [intOf]; omega
        · as_aux_lemma =>
          have j3 : ¬ (j : Int) < 4 := by omega
          replace hM := wide_blk hM H1
          replace HB := Lib.hid (HB.out.trans H1)
          clear hcS hS H1
          have szK0 : (keyM ++ (⟨#[120]⟩ : ByteArray)).size = 33 := by decide
          have szM0 : keyM.size = 32 := by decide
          obtain ⟨KM, hKM⟩ : ∃ x, keyM = x := ⟨_, rfl⟩
          rw [hKM] at szK0 szM0 hk31
          clear hKM
          have hk := blk_cell hM 31 hk31
          have szK := szK0
          have szM := szM0
          clear szK0 szM0
          go_upto_region 27 with (fail)
          have sz1 : (⟨#[120]⟩ : ByteArray).size = 1 := rfl
          have H : Wider wr wr := Wider.refl wr
          have hkq : ∀ W, (∃ x : After wr, W = x.w) → W.cell? ⟨BM, 31, none⟩ = some (.string KM) := fun W g => blk_cell (after_blk hM W g) 31 hk31
          refine wp_region_prefix 14 H ?_
          simp only [List.take_succ_cons, List.take_zero, List.drop_succ_cons, List.drop_zero]
          (go_big_quiet_want; (refine quiet_field 46 (.tmp 1) 14 rfl BM 0 30 rfl (fieldM14 _) ?_); go_big_quiet_on; simp only [Act.put, List.setIfInBounds_toArray, List.set_cons_succ, List.set_cons_zero])
          (go_big_quiet_want; (refine quiet_field 34 (.tmp 138) 1 rfl BM 30 31 rfl (fieldKey _) ?_); go_big_quiet_on; simp only [Act.put, List.setIfInBounds_toArray, List.set_cons_succ, List.set_cons_zero])
          (go_big_quiet_want; (refine quiet_cell 9 (.tmp 139) rfl BM 31 rfl hkq _ Tryz.underlying9 rfl ?_); go_big_quiet_on; simp only [Act.put, List.setIfInBounds_toArray, List.set_cons_succ, List.set_cons_zero])
          (go_big_quiet_step (fail); (try simp only [Bool.false_eq_true, ↓reduceIte]))
          (go_big_quiet_want; (refine quiet_build 34 #[(1, .tmp 141)] rfl (ps := #[(1, .string (KM ++ (⟨#[120]⟩ : ByteArray)))]) (by kernel_rfl) (entB0 (KM ++ (⟨#[120]⟩ : ByteArray))) ?_); go_big_quiet_on; simp only [Act.put, List.setIfInBounds_toArray, List.set_cons_succ, List.set_cons_zero])
          (go_big_quiet_want; (refine quiet_field 46 (.tmp 1) 14 rfl BM 0 30 rfl (fieldM14 _) ?_); go_big_quiet_on; simp only [Act.put, List.setIfInBounds_toArray, List.set_cons_succ, List.set_cons_zero])
          (go_big_quiet_want; (refine quiet_field 34 (.tmp 143) 1 rfl BM 30 31 rfl (fieldKey _) ?_); go_big_quiet_on; simp only [Act.put, List.setIfInBounds_toArray, List.set_cons_succ, List.set_cons_zero])
          (go_big_quiet_want; (refine quiet_cell 9 (.tmp 144) rfl BM 31 rfl hkq _ Tryz.underlying9 rfl ?_); go_big_quiet_on; simp only [Act.put, List.setIfInBounds_toArray, List.set_cons_succ, List.set_cons_zero])
          (go_big_quiet_step (fail); (try simp only [Bool.false_eq_true, ↓reduceIte]))
          (go_big_quiet_want; (refine quiet_build 34 #[(2, .tmp 146)] rfl (ps := #[(2, .string (KM ++ (⟨#[120]⟩ : ByteArray)))]) (by kernel_rfl) (entB1 (KM ++ (⟨#[120]⟩ : ByteArray))) ?_); go_big_quiet_on; simp only [Act.put, List.setIfInBounds_toArray, List.set_cons_succ, List.set_cons_zero])
          (go_big_quiet_want; (refine quiet_build 34 #[(7, .const (Value.int .i64 (-1)))] rfl (ps := #[(7, .int .i64 (-1))]) (by kernel_rfl) (entB2) ?_); go_big_quiet_on; simp only [Act.put, List.setIfInBounds_toArray, List.set_cons_succ, List.set_cons_zero])
          (go_big_quiet_want; (refine quiet_build 34 #[(8, .const (Value.int .i64 (-1)))] rfl (ps := #[(8, .int .i64 (-1))]) (by kernel_rfl) (entB3) ?_); go_big_quiet_on; simp only [Act.put, List.setIfInBounds_toArray, List.set_cons_succ, List.set_cons_zero])
          (go_big_quiet_want; (refine quiet_build 34 #[(4, .const (Value.int .i64 (-1)))] rfl (ps := #[(4, .int .i64 (-1))]) (by kernel_rfl) (entB4) ?_); go_big_quiet_on; simp only [Act.put, List.setIfInBounds_toArray, List.set_cons_succ, List.set_cons_zero])
          (go_big_quiet_want; (refine quiet_build 34 #[(0, .const (Value.int .i64 2147483648))] rfl (ps := #[(0, .int .i64 2147483648)]) (by kernel_rfl) (entB5) ?_); go_big_quiet_on; simp only [Act.put, List.setIfInBounds_toArray, List.set_cons_succ, List.set_cons_zero])
          refine wpQuiet_nil ?_
          rintro _ ⟨y9, rfl⟩
          replace H := y9.h
          refine wpList_buildSlice rfl 60 6 #[(0, .tmp 142), (1, .tmp 147), (2, .tmp 148), (3, .tmp 149), (4, .tmp 150), (5, .tmp 151)] rfl (ps := #[(0, .agg (entA0 (KM ++ (⟨#[120]⟩ : ByteArray)))), (1, .agg (entA1 (KM ++ (⟨#[120]⟩ : ByteArray)))), (2, .agg entA2), (3, .agg entA3), (4, .agg entA4), (5, .agg entA5)]) (by kernel_rfl) (entSlice _ _) ?_
          try simp only [Act.put, List.setIfInBounds_toArray, List.set_cons_succ, List.set_cons_zero]
          go_upto_region 28 with (fail)
          obtain ⟨KX, hKX⟩ : ∃ x, KM ++ (⟨#[120]⟩ : ByteArray) = x := ⟨_, rfl⟩
          rw [hKX] at szK ⊢
          clear hKX hk hk31 hM szM hkq sz1
          have hE := heap_alloc_new y9.w (.cells (entS KX) 34)
          have G1 := H.alloc (.cells (entS KX) 34)
          obtain ⟨BE, hBE⟩ : ∃ x, y9.w.heap.size = x := ⟨_, rfl⟩
          obtain ⟨wE, hwE⟩ : ∃ x, y9.w.alloc (.cells (entS KX) 34) = x := ⟨_, rfl⟩
          rw [hwE] at hE G1 ⊢
          rw [hBE] at hE ⊢
          replace HB := Lib.hid (HB.out.trans G1)
          clear hwE hBE G1 H
          go_wp2
          go_loopw [21] (fun i wq => ∃ j : Nat, j ≤ 6 ∧ i = .int .i64 (j : Int) ∧ Wider wE wq) (fun i _ => 6 - (intOf i).toNat)
          case atStart => exact ⟨0, by omega, by simp, Wider.refl wE⟩
          case round =>
            obtain ⟨j, hj2, rfl, H1⟩ := hrel
            replace hE := wide_blk hE H1
            by_cases cj2 : j < 6
            · as_aux_lemma =>
              obtain rfl | rfl | rfl | rfl | rfl | rfl : j = 0 ∨ j = 1 ∨ j = 2 ∨ j = 3 ∨ j = 4 ∨ j = 5 := by omega
              · have RE : ∀ W, RepEntry W #[.int .i64 0, .string KX, .string ⟨#[]⟩, .int .i64 0, .int .i64 0, .int .i64 0, .slice none 0 0, .int .i64 0, .int .i64 0, .int .u64 0, .bool false] [ValN.num 0, ValN.txt KX, ValN.txt ⟨#[]⟩, ValN.num 0, ValN.num 0, ValN.num 0, ValN.lst [], ValN.num 0, ValN.num 0, ValN.num 0, ValN.num 0] := fun W => ⟨0, 0, 0, 0, 0, 0, 0, KX, ⟨#[]⟩, false, none, 0, 0, [], rfl, rfl, rfl, by rw [szK]; decide, Nat.zero_le _, rfl, rfl, rfl, rfl, rfl, rfl, ⟨fun _ => rfl, fun a e => by cases e⟩, rfl, by decide, fun x hx => by cases hx⟩
                have zm := fun W : World => (RE W).may (b := false) ⟨fun e => (by cases e), fun h => absurd h (entNo0 KX (by omega))⟩
                have hl : ((entS KX) : Array Value).extract 0 11 = #[.int .i64 0, .string KX, .string ⟨#[]⟩, .int .i64 0, .int .i64 0, .int .i64 0, .slice none 0 0, .int .i64 0, .int .i64 0, .int .u64 0, .bool false] := rfl
                go_wp2_with (first
                  | (with_reducible refine wpList_load_part rfl 34 (.tmp 161) rfl BE 0 11 11 rfl rfl _ hE (by rw [entS_size]; decide) Tryz.underlying34 rfl (by kernel_rfl) ?_; rw [hl])
                  | (go_at_call 19; (with_reducible refine (zm _).mono ?_); rintro e wN ⟨rfl, gN⟩))
                go_roundw
                case rel => exact ⟨0 + 1, by omega, by go_num, H1.trans gN⟩
                case measure => simp [intOf]
              · have RE : ∀ W, RepEntry W #[.int .i64 0, .string ⟨#[]⟩, .string KX, .int .i64 0, .int .i64 0, .int .i64 0, .slice none 0 0, .int .i64 0, .int .i64 0, .int .u64 0, .bool false] [ValN.num 0, ValN.txt ⟨#[]⟩, ValN.txt KX, ValN.num 0, ValN.num 0, ValN.num 0, ValN.lst [], ValN.num 0, ValN.num 0, ValN.num 0, ValN.num 0] := fun W => ⟨0, 0, 0, 0, 0, 0, 0, ⟨#[]⟩, KX, false, none, 0, 0, [], rfl, rfl, rfl, Nat.zero_le _, by rw [szK]; decide, rfl, rfl, rfl, rfl, rfl, rfl, ⟨fun _ => rfl, fun a e => by cases e⟩, rfl, by decide, fun x hx => by cases hx⟩
                have zm := fun W : World => (RE W).may (b := false) ⟨fun e => (by cases e), fun h => absurd h (entNo1 KX (by omega))⟩
                have hl : ((entS KX) : Array Value).extract 11 22 = #[.int .i64 0, .string ⟨#[]⟩, .string KX, .int .i64 0, .int .i64 0, .int .i64 0, .slice none 0 0, .int .i64 0, .int .i64 0, .int .u64 0, .bool false] := rfl
                go_wp2_with (first
                  | (with_reducible refine wpList_load_part rfl 34 (.tmp 161) rfl BE 11 11 22 rfl rfl _ hE (by rw [entS_size]; decide) Tryz.underlying34 rfl (by kernel_rfl) ?_; rw [hl])
                  | (go_at_call 19; (with_reducible refine (zm _).mono ?_); rintro e wN ⟨rfl, gN⟩))
                go_roundw
                case rel => exact ⟨1 + 1, by omega, by go_num, H1.trans gN⟩
                case measure => simp [intOf]
              · have RE : ∀ W, RepEntry W #[.int .i64 0, .string ⟨#[]⟩, .string ⟨#[]⟩, .int .i64 0, .int .i64 0, .int .i64 0, .slice none 0 0, .int .i64 (-1), .int .i64 0, .int .u64 0, .bool false] [ValN.num 0, ValN.txt ⟨#[]⟩, ValN.txt ⟨#[]⟩, ValN.num 0, ValN.num 0, ValN.num 0, ValN.lst [], ValN.num (-1), ValN.num 0, ValN.num 0, ValN.num 0] := fun W => ⟨0, 0, 0, 0, -1, 0, 0, ⟨#[]⟩, ⟨#[]⟩, false, none, 0, 0, [], rfl, rfl, rfl, Nat.zero_le _, Nat.zero_le _, rfl, rfl, rfl, rfl, rfl, rfl, ⟨fun _ => rfl, fun a e => by cases e⟩, rfl, by decide, fun x hx => by cases hx⟩
                have zm := fun W : World => (RE W).may (b := false) ⟨fun e => (by cases e), fun h => absurd h (entNo2)⟩
                have hl : ((entS KX) : Array Value).extract 22 33 = #[.int .i64 0, .string ⟨#[]⟩, .string ⟨#[]⟩, .int .i64 0, .int .i64 0, .int .i64 0, .slice none 0 0, .int .i64 (-1), .int .i64 0, .int .u64 0, .bool false] := rfl
                go_wp2_with (first
                  | (with_reducible refine wpList_load_part rfl 34 (.tmp 161) rfl BE 22 11 33 rfl rfl _ hE (by rw [entS_size]; decide) Tryz.underlying34 rfl (by kernel_rfl) ?_; rw [hl])
                  | (go_at_call 19; (with_reducible refine (zm _).mono ?_); rintro e wN ⟨rfl, gN⟩))
                go_roundw
                case rel => exact ⟨2 + 1, by omega, by go_num, H1.trans gN⟩
                case measure => simp [intOf]
              · have RE : ∀ W, RepEntry W #[.int .i64 0, .string ⟨#[]⟩, .string ⟨#[]⟩, .int .i64 0, .int .i64 0, .int .i64 0, .slice none 0 0, .int .i64 0, .int .i64 (-1), .int .u64 0, .bool false] [ValN.num 0, ValN.txt ⟨#[]⟩, ValN.txt ⟨#[]⟩, ValN.num 0, ValN.num 0, ValN.num 0, ValN.lst [], ValN.num 0, ValN.num (-1), ValN.num 0, ValN.num 0] := fun W => ⟨0, 0, 0, 0, 0, -1, 0, ⟨#[]⟩, ⟨#[]⟩, false, none, 0, 0, [], rfl, rfl, rfl, Nat.zero_le _, Nat.zero_le _, rfl, rfl, rfl, rfl, rfl, rfl, ⟨fun _ => rfl, fun a e => by cases e⟩, rfl, by decide, fun x hx => by cases hx⟩
                have zm := fun W : World => (RE W).may (b := false) ⟨fun e => (by cases e), fun h => absurd h (entNo3)⟩
                have hl : ((entS KX) : Array Value).extract 33 44 = #[.int .i64 0, .string ⟨#[]⟩, .string ⟨#[]⟩, .int .i64 0, .int .i64 0, .int .i64 0, .slice none 0 0, .int .i64 0, .int .i64 (-1), .int .u64 0, .bool false] := rfl
                go_wp2_with (first
                  | (with_reducible refine wpList_load_part rfl 34 (.tmp 161) rfl BE 33 11 44 rfl rfl _ hE (by rw [entS_size]; decide) Tryz.underlying34 rfl (by kernel_rfl) ?_; rw [hl])
                  | (go_at_call 19; (with_reducible refine (zm _).mono ?_); rintro e wN ⟨rfl, gN⟩))
                go_roundw
                case rel => exact ⟨3 + 1, by omega, by go_num, H1.trans gN⟩
                case measure => simp [intOf]
              · have RE : ∀ W, RepEntry W #[.int .i64 0, .string ⟨#[]⟩, .string ⟨#[]⟩, .int .i64 0, .int .i64 (-1), .int .i64 0, .slice none 0 0, .int .i64 0, .int .i64 0, .int .u64 0, .bool false] [ValN.num 0, ValN.txt ⟨#[]⟩, ValN.txt ⟨#[]⟩, ValN.num 0, ValN.num (-1), ValN.num 0, ValN.lst [], ValN.num 0, ValN.num 0, ValN.num 0, ValN.num 0] := fun W => ⟨0, 0, -1, 0, 0, 0, 0, ⟨#[]⟩, ⟨#[]⟩, false, none, 0, 0, [], rfl, rfl, rfl, Nat.zero_le _, Nat.zero_le _, rfl, rfl, rfl, rfl, rfl, rfl, ⟨fun _ => rfl, fun a e => by cases e⟩, rfl, by decide, fun x hx => by cases hx⟩
                have zm := fun W : World => (RE W).may (b := false) ⟨fun e => (by cases e), fun h => absurd h (entNo4)⟩
                have hl : ((entS KX) : Array Value).extract 44 55 = #[.int .i64 0, .string ⟨#[]⟩, .string ⟨#[]⟩, .int .i64 0, .int .i64 (-1), .int .i64 0, .slice none 0 0, .int .i64 0, .int .i64 0, .int .u64 0, .bool false] := rfl
                go_wp2_with (first
                  | (with_reducible refine wpList_load_part rfl 34 (.tmp 161) rfl BE 44 11 55 rfl rfl _ hE (by rw [entS_size]; decide) Tryz.underlying34 rfl (by kernel_rfl) ?_; rw [hl])
                  | (go_at_call 19; (with_reducible refine (zm _).mono ?_); rintro e wN ⟨rfl, gN⟩))
                go_roundw
                case rel => exact ⟨4 + 1, by omega, by go_num, H1.trans gN⟩
                case measure => simp [intOf]
              · have RE : ∀ W, RepEntry W #[.int .i64 2147483648, .string ⟨#[]⟩, .string ⟨#[]⟩, .int .i64 0, .int .i64 0, .int .i64 0, .slice none 0 0, .int .i64 0, .int .i64 0, .int .u64 0, .bool false] [ValN.num 2147483648, ValN.txt ⟨#[]⟩, ValN.txt ⟨#[]⟩, ValN.num 0, ValN.num 0, ValN.num 0, ValN.lst [], ValN.num 0, ValN.num 0, ValN.num 0, ValN.num 0] := fun W => ⟨2147483648, 0, 0, 0, 0, 0, 0, ⟨#[]⟩, ⟨#[]⟩, false, none, 0, 0, [], rfl, rfl, rfl, Nat.zero_le _, Nat.zero_le _, rfl, rfl, rfl, rfl, rfl, rfl, ⟨fun _ => rfl, fun a e => by cases e⟩, rfl, by decide, fun x hx => by cases hx⟩
                have zm := fun W : World => (RE W).may (b := false) ⟨fun e => (by cases e), fun h => absurd h (entNo5)⟩
                have hl : ((entS KX) : Array Value).extract 55 66 = #[.int .i64 2147483648, .string ⟨#[]⟩, .string ⟨#[]⟩, .int .i64 0, .int .i64 0, .int .i64 0, .slice none 0 0, .int .i64 0, .int .i64 0, .int .u64 0, .bool false] := rfl
                go_wp2_with (first
                  | (with_reducible refine wpList_load_part rfl 34 (.tmp 161) rfl BE 55 11 66 rfl rfl _ hE (by rw [entS_size]; decide) Tryz.underlying34 rfl (by kernel_rfl) ?_; rw [hl])
                  | (go_at_call 19; (with_reducible refine (zm _).mono ?_); rintro e wN ⟨rfl, gN⟩))
                go_roundw
                case rel => exact ⟨5 + 1, by omega, by go_num, H1.trans gN⟩
                case measure => simp [intOf]
            · as_aux_lemma =>
              obtain rfl : j = 6 := by omega
              replace HB := Lib.hid (HB.out.trans H1)
              clear hE H1 szK
              have z1 := fun W : World => readEntry_c ⟨#[11, 0, 1, 2]⟩ W (by decide) (v0 := 0) (v1 := ⟨#[]⟩) (v2 := ⟨#[]⟩) (v3 := 0) (v4 := 0) (v5 := 0) (v7 := 0) (v8 := 0) (v9 := 0) (v10 := 0) (L := []) dEnd1
              have z2 := fun W : World => readEntry_c ⟨#[11, 0, 1, 1]⟩ W (by decide) (v0 := 0) (v1 := ⟨#[]⟩) (v2 := ⟨#[]⟩) (v3 := 0) (v4 := 0) (v5 := 0) (v7 := 0) (v8 := 0) (v9 := 0) (v10 := 1) (L := []) dEnd2
              have z3 := fun W : World => readField_c ⟨#[2, 0, 2, 1, 0]⟩ W (by decide) (v0 := 0) (v1 := 0) (v2 := 0) (v3 := 0) (v4 := 0) dEnd3
              have z4 := fun W : World => readNode_c ⟨#[9, 0, 2, 0, 0]⟩ W (by decide) (v0 := 0) (v1 := 0) (v2 := 0) (v3 := 0) (v4 := 0) (v5 := 0) (v6 := 0) (v8 := 0) (L := [[0, 0]]) dEnd4
              have z5 := fun W : World => readTable_c ⟨#[3, 0, 5, 0, 0, 0, 1, 7]⟩ W (by decide) (v0 := 0) (v1 := 0) (v3 := 0) (v4 := 0) (L := [[0], [7]]) dEnd5
              have H : Wider wr wr := Wider.refl wr
              go_upto_region 34 with (first
                | (go_at_call 20; (with_reducible refine (z1 _).mono ?_); rintro e wN ⟨A1, n1, c1, rfl, gN, hn1, ho1⟩; replace H := H.trans gN)
                | (with_reducible refine wpList_extract rfl (.tmp 164) 0 rfl rfl rfl ?_)
                | (with_reducible refine wpList_extract rfl (.tmp 164) 1 rfl rfl rfl ?_))
              (try simp only [List.getElem?_cons_zero, Option.getD_some])
              have hB1 := heap_alloc_new wN (.cells #[.int .i64 0, .string ⟨#[]⟩, .string ⟨#[]⟩, .int .i64 0, .int .i64 0, .int .i64 0, .slice A1 n1 c1, .int .i64 0, .int .i64 0, .int .u64 0, .bool false] 34)
              have H2 := H.alloc (.cells #[.int .i64 0, .string ⟨#[]⟩, .string ⟨#[]⟩, .int .i64 0, .int .i64 0, .int .i64 0, .slice A1 n1 c1, .int .i64 0, .int .i64 0, .int .u64 0, .bool false] 34)
              have H3 := gN.alloc (.cells #[.int .i64 0, .string ⟨#[]⟩, .string ⟨#[]⟩, .int .i64 0, .int .i64 0, .int .i64 0, .slice A1 n1 c1, .int .i64 0, .int .i64 0, .int .u64 0, .bool false] 34)
              have H4 := (Wider.refl wN).alloc (.cells #[.int .i64 0, .string ⟨#[]⟩, .string ⟨#[]⟩, .int .i64 0, .int .i64 0, .int .i64 0, .slice A1 n1 c1, .int .i64 0, .int .i64 0, .int .u64 0, .bool false] 34)
              clear H3 H4 gN H ho1
              obtain ⟨B1, hBe⟩ : ∃ B, wN.heap.size = B := ⟨_, rfl⟩
              obtain ⟨w1, hwS⟩ : ∃ wS, wN.alloc (.cells #[.int .i64 0, .string ⟨#[]⟩, .string ⟨#[]⟩, .int .i64 0, .int .i64 0, .int .i64 0, .slice A1 n1 c1, .int .i64 0, .int .i64 0, .int .u64 0, .bool false] 34) = wS := ⟨_, rfl⟩
              rw [hwS] at hB1 H2 ⊢
              rw [hBe] at hB1 ⊢
              have H := H2
              clear hwS hBe H2
              clear hB1
              go_upto_region 35 with (first
                | (go_at_call 20; (with_reducible refine (z2 _).mono ?_); rintro e wN ⟨A2, n2, c2, rfl, gN, hn2, ho2⟩; replace H := H.trans gN)
                | (with_reducible refine wpList_extract rfl (.tmp 168) 0 rfl rfl rfl ?_)
                | (with_reducible refine wpList_extract rfl (.tmp 168) 1 rfl rfl rfl ?_))
              (try simp only [List.getElem?_cons_zero, Option.getD_some])
              have hB2 := heap_alloc_new wN (.cells #[.int .i64 0, .string ⟨#[]⟩, .string ⟨#[]⟩, .int .i64 0, .int .i64 0, .int .i64 0, .slice A2 n2 c2, .int .i64 0, .int .i64 0, .int .u64 0, .bool true] 34)
              have H2 := H.alloc (.cells #[.int .i64 0, .string ⟨#[]⟩, .string ⟨#[]⟩, .int .i64 0, .int .i64 0, .int .i64 0, .slice A2 n2 c2, .int .i64 0, .int .i64 0, .int .u64 0, .bool true] 34)
              have H3 := gN.alloc (.cells #[.int .i64 0, .string ⟨#[]⟩, .string ⟨#[]⟩, .int .i64 0, .int .i64 0, .int .i64 0, .slice A2 n2 c2, .int .i64 0, .int .i64 0, .int .u64 0, .bool true] 34)
              have H4 := (Wider.refl wN).alloc (.cells #[.int .i64 0, .string ⟨#[]⟩, .string ⟨#[]⟩, .int .i64 0, .int .i64 0, .int .i64 0, .slice A2 n2 c2, .int .i64 0, .int .i64 0, .int .u64 0, .bool true] 34)
              clear H3 H4 gN H ho2
              obtain ⟨B2, hBe⟩ : ∃ B, wN.heap.size = B := ⟨_, rfl⟩
              obtain ⟨w2, hwS⟩ : ∃ wS, wN.alloc (.cells #[.int .i64 0, .string ⟨#[]⟩, .string ⟨#[]⟩, .int .i64 0, .int .i64 0, .int .i64 0, .slice A2 n2 c2, .int .i64 0, .int .i64 0, .int .u64 0, .bool true] 34) = wS := ⟨_, rfl⟩
              rw [hwS] at hB2 H2 ⊢
              rw [hBe] at hB2 ⊢
              have H := H2
              clear hwS hBe H2
              go_upto_region 36 with (first
                | (go_at_call 21; (with_reducible refine (z3 _).mono ?_); rintro e wN ⟨rfl, gN⟩; replace H := H.trans gN)
                | (with_reducible refine wpList_extract rfl (.tmp 172) 0 rfl rfl rfl ?_)
                | (with_reducible refine wpList_extract rfl (.tmp 172) 1 rfl rfl rfl ?_))
              (try simp only [List.getElem?_cons_zero, Option.getD_some])
              have hB3 := heap_alloc_new wN (.cells #[.int .i64 0, .int .u8 0, .int .i64 0, .int .i64 0, .int .i64 0] 29)
              have H2 := H.alloc (.cells #[.int .i64 0, .int .u8 0, .int .i64 0, .int .i64 0, .int .i64 0] 29)
              have H3 := gN.alloc (.cells #[.int .i64 0, .int .u8 0, .int .i64 0, .int .i64 0, .int .i64 0] 29)
              have H4 := (Wider.refl wN).alloc (.cells #[.int .i64 0, .int .u8 0, .int .i64 0, .int .i64 0, .int .i64 0] 29)
              replace hB2 := wide_blk hB2 H3
              clear H3 H4 gN H
              obtain ⟨B3, hBe⟩ : ∃ B, wN.heap.size = B := ⟨_, rfl⟩
              obtain ⟨w3, hwS⟩ : ∃ wS, wN.alloc (.cells #[.int .i64 0, .int .u8 0, .int .i64 0, .int .i64 0, .int .i64 0] 29) = wS := ⟨_, rfl⟩
              rw [hwS] at hB3 H2 hB2 ⊢
              rw [hBe] at hB3 ⊢
              have H := H2
              clear hwS hBe H2
              clear hB3
              go_upto_region 37 with (first
                | (go_at_call 22; (with_reducible refine (z4 _).mono ?_); rintro e wN ⟨A4, n4, c4, rfl, gN, hn4, ho4⟩; replace H := H.trans gN)
                | (with_reducible refine wpList_extract rfl (.tmp 176) 0 rfl rfl rfl ?_)
                | (with_reducible refine wpList_extract rfl (.tmp 176) 1 rfl rfl rfl ?_))
              (try simp only [List.getElem?_cons_zero, Option.getD_some])
              obtain rfl : n4 = 1 := hn4.symm
              obtain ⟨g4, C4, t4, rfl, hg4, hC4⟩ := own_some ho4 (by decide)
              have hB4 := heap_alloc_new wN (.cells #[.int .i64 0, .int .i64 0, .int .i64 0, .int .i64 0, .int .i64 0, .int .i64 0, .int .i64 0, .slice (some ⟨g4, 0, none⟩) 1 c4, .int .i64 0] 27)
              have H2 := H.alloc (.cells #[.int .i64 0, .int .i64 0, .int .i64 0, .int .i64 0, .int .i64 0, .int .i64 0, .int .i64 0, .slice (some ⟨g4, 0, none⟩) 1 c4, .int .i64 0] 27)
              have H3 := gN.alloc (.cells #[.int .i64 0, .int .i64 0, .int .i64 0, .int .i64 0, .int .i64 0, .int .i64 0, .int .i64 0, .slice (some ⟨g4, 0, none⟩) 1 c4, .int .i64 0] 27)
              have H4 := (Wider.refl wN).alloc (.cells #[.int .i64 0, .int .i64 0, .int .i64 0, .int .i64 0, .int .i64 0, .int .i64 0, .int .i64 0, .slice (some ⟨g4, 0, none⟩) 1 c4, .int .i64 0] 27)
              replace hB2 := wide_blk hB2 H3
              replace hg4 := wide_blk hg4 H4
              clear H3 H4 gN H ho4
              obtain ⟨B4, hBe⟩ : ∃ B, wN.heap.size = B := ⟨_, rfl⟩
              obtain ⟨w4, hwS⟩ : ∃ wS, wN.alloc (.cells #[.int .i64 0, .int .i64 0, .int .i64 0, .int .i64 0, .int .i64 0, .int .i64 0, .int .i64 0, .slice (some ⟨g4, 0, none⟩) 1 c4, .int .i64 0] 27) = wS := ⟨_, rfl⟩
              rw [hwS] at hB4 H2 hB2 hg4 ⊢
              rw [hBe] at hB4 ⊢
              have H := H2
              clear hwS hBe H2
              go_upto_region 38 with (first
                | (go_at_call 23; (with_reducible refine (z5 _).mono ?_); rintro e wN ⟨A5, n5, c5, rfl, gN, hn5, ho5⟩; replace H := H.trans gN)
                | (with_reducible refine wpList_extract rfl (.tmp 180) 0 rfl rfl rfl ?_)
                | (with_reducible refine wpList_extract rfl (.tmp 180) 1 rfl rfl rfl ?_))
              (try simp only [List.getElem?_cons_zero, Option.getD_some])
              obtain rfl : n5 = 2 := hn5.symm
              obtain ⟨g5, C5, t5, rfl, hg5, hC5⟩ := own_some ho5 (by decide)
              have hB5 := heap_alloc_new wN (.cells #[.int .i64 0, .int .u8 0, .slice (some ⟨g5, 0, none⟩) 2 c5, .int .i64 0, .int .i64 0] 32)
              have H2 := H.alloc (.cells #[.int .i64 0, .int .u8 0, .slice (some ⟨g5, 0, none⟩) 2 c5, .int .i64 0, .int .i64 0] 32)
              have H3 := gN.alloc (.cells #[.int .i64 0, .int .u8 0, .slice (some ⟨g5, 0, none⟩) 2 c5, .int .i64 0, .int .i64 0] 32)
              have H4 := (Wider.refl wN).alloc (.cells #[.int .i64 0, .int .u8 0, .slice (some ⟨g5, 0, none⟩) 2 c5, .int .i64 0, .int .i64 0] 32)
              replace hB2 := wide_blk hB2 H3
              replace hB4 := wide_blk hB4 H3
              replace hg4 := wide_blk hg4 H3
              replace hg5 := wide_blk hg5 H4
              clear H3 H4 gN H ho5
              obtain ⟨B5, hBe⟩ : ∃ B, wN.heap.size = B := ⟨_, rfl⟩
              obtain ⟨w5, hwS⟩ : ∃ wS, wN.alloc (.cells #[.int .i64 0, .int .u8 0, .slice (some ⟨g5, 0, none⟩) 2 c5, .int .i64 0, .int .i64 0] 32) = wS := ⟨_, rfl⟩
              rw [hwS] at hB5 H2 hB2 hB4 hg4 hg5 ⊢
              rw [hBe] at hB5 ⊢
              have H := H2
              clear hwS hBe H2
              have l4 : C4.toList.take 2 = [.int .u32 0, .int .i64 0] := hC4
              have l5 : C5.toList.take 2 = [.int .i64 0, .int .i64 7] := hC5
              have s4 : 2 ≤ C4.size := by have := congrArg List.length l4; simp only [List.length_take, Array.length_toList, List.length_cons, List.length_nil] at this; omega
              have e4 : C4.extract 0 2 = #[.int .u32 0, .int .i64 0] := by
                apply Array.toList_inj.1
                rw [Array.toList_extract]
                simpa using l4
              have e50 : C5[0]? = some (.int .i64 0) := by
                have q := congrArg (fun l => l[0]?) l5
                simpa [List.getElem?_take] using q
              have e51 : C5[1]? = some (.int .i64 7) := by
                have q := congrArg (fun l => l[1]?) l5
                simpa [List.getElem?_take] using q
              clear l4 l5 hC4 hC5
              have q2 : ∀ W, (∃ x : After w5, W = x.w) → W.cell? ⟨B2, 10, none⟩ = some (.bool true) := fun W g => blk_cell (after_blk hB2 W g) 10 rfl
              have q4 : ∀ W, (∃ x : After w5, W = x.w) → W.cell? ⟨B4, 7, none⟩ = some (.slice (some ⟨g4, 0, none⟩) 1 c4) := fun W g => blk_cell (after_blk hB4 W g) 7 rfl
              have q5 : ∀ W, (∃ x : After w5, W = x.w) → W.cell? ⟨B5, 2, none⟩ = some (.slice (some ⟨g5, 0, none⟩) 2 c5) := fun W g => blk_cell (after_blk hB5 W g) 2 rfl
              have q50 : ∀ W, (∃ x : After w5, W = x.w) → W.cell? ⟨g5, 0, none⟩ = some (.int .i64 0) := fun W g => blk_cell (after_blk hg5 W g) 0 e50
              have q51 : ∀ W, (∃ x : After w5, W = x.w) → W.cell? ⟨g5, 1, none⟩ = some (.int .i64 7) := fun W g => blk_cell (after_blk hg5 W g) 1 e51
              replace HB := Lib.hid (HB.out.trans H)
              clear H
              have H : Wider w5 w5 := Wider.refl w5
              refine wp_region_plain H ?_
              repeat (first
                | (go_big_quiet_want; (refine quiet_field 34 (.tmp 24) 10 rfl B2 0 10 rfl (fieldOB2 _) ?_); go_big_quiet_on; simp only [Act.put, List.setIfInBounds_toArray, List.set_cons_succ, List.set_cons_zero])
                | (go_big_quiet_want; (refine quiet_field 27 (.tmp 28) 7 rfl B4 0 7 rfl (fieldOB4 _) ?_); go_big_quiet_on; simp only [Act.put, List.setIfInBounds_toArray, List.set_cons_succ, List.set_cons_zero])
                | (go_big_quiet_want; (refine quiet_field 32 (.tmp 30) 2 rfl B5 0 2 rfl (fieldOB5 _) ?_); go_big_quiet_on; simp only [Act.put, List.setIfInBounds_toArray, List.set_cons_succ, List.set_cons_zero])
                | (go_big_quiet_want; (refine quiet_cell 4 (.tmp 191) rfl B2 10 rfl q2 _ Tryz.underlying4 rfl ?_); go_big_quiet_on; simp only [Act.put, List.setIfInBounds_toArray, List.set_cons_succ, List.set_cons_zero])
                | (go_big_quiet_want; (refine quiet_cell 25 (.tmp 203) rfl B4 7 rfl q4 _ Tryz.underlying25 rfl ?_); go_big_quiet_on; simp only [Act.put, List.setIfInBounds_toArray, List.set_cons_succ, List.set_cons_zero])
                | (go_big_quiet_want; (refine quiet_cell 25 (.tmp 209) rfl B4 7 rfl q4 _ Tryz.underlying25 rfl ?_); go_big_quiet_on; simp only [Act.put, List.setIfInBounds_toArray, List.set_cons_succ, List.set_cons_zero])
                | (go_big_quiet_want; (refine quiet_cell 30 (.tmp 221) rfl B5 2 rfl q5 _ Tryz.underlying30 rfl ?_); go_big_quiet_on; simp only [Act.put, List.setIfInBounds_toArray, List.set_cons_succ, List.set_cons_zero])
                | (go_big_quiet_want; (refine quiet_cell 30 (.tmp 227) rfl B5 2 rfl q5 _ Tryz.underlying30 rfl ?_); go_big_quiet_on; simp only [Act.put, List.setIfInBounds_toArray, List.set_cons_succ, List.set_cons_zero])
                | (go_big_quiet_want; (refine quiet_cell 30 (.tmp 234) rfl B5 2 rfl q5 _ Tryz.underlying30 rfl ?_); go_big_quiet_on; simp only [Act.put, List.setIfInBounds_toArray, List.set_cons_succ, List.set_cons_zero])
                | (go_big_quiet_want; (refine quiet_cell 3 (.tmp 229) rfl g5 0 rfl q50 _ Tryz.underlying3 rfl ?_); go_big_quiet_on; simp only [Act.put, List.setIfInBounds_toArray, List.set_cons_succ, List.set_cons_zero])
                | (go_big_quiet_want; (refine quiet_cell 3 (.tmp 236) rfl g5 1 rfl q51 _ Tryz.underlying3 rfl ?_); go_big_quiet_on; simp only [Act.put, List.setIfInBounds_toArray, List.set_cons_succ, List.set_cons_zero])
                | (go_big_quiet_want; (refine quiet_load 71 (.tmp 211) rfl g4 0 2 2 rfl rfl (C := C4) _ (after_blk hg4) s4 Tryz.underlying71 rfl (by kernel_rfl) ?_); go_big_quiet_on; simp only [Act.put, List.setIfInBounds_toArray, List.set_cons_succ, List.set_cons_zero]; rw [e4])
                | (go_big_quiet_step (first | (fail)); (try simp only [Bool.false_eq_true, ↓reduceIte])))
              refine wpQuiet_nil ?_
              rintro _ ⟨y7, rfl⟩
              replace H := y7.h
              have HE := HB.out.trans H
              go_wp2
              go_ret
              exact ⟨rfl, HE⟩
set_option maxRecDepth 100000 in
theorem objNames_lifted (os : Os) (started : os.Started) (H : Type) (enc : TypeId × Value → H) :
    ReturnsInHanded {} Tryz.checked os 5 .any (Rows.objNamesSpec.pre6 enc Tryz.prog Tryz.f5 Rows.objNamesRow.domain false) (Rows.objNamesSpec.post enc Tryz.prog Tryz.f5 false true false false) := by
  refine returnsInHanded_of_change (C := Tryz.checked) own started (by kernel_rfl) Tryz.func5
    (ChangeSpec.witness6 (enc := enc) (C := Tryz.checked) false ⟨#[], #[], []⟩ 8 (by kernel_rfl) (by kernel_rfl) (by kernel_rfl) (by kernel_rfl)) ?_
  intro W base args ds gs before hval0 hW hcnd _
  have hval : ∀ (j : Nat) t v, Tryz.f5.params[j]? = some t → args[j]? = some v → Value.okWide Tryz.prog W .any base t v := hval0
  have hW' := hW
  obtain ⟨p, q, hA0, hV, rfl, hfz, hnd⟩ := hW
  have hA : DataW.TrodAll enc Tryz.prog W 0 (fun _ => true) true Tryz.f5.params.toList args.toList ds p := hA0
  rw [Tryz.params5] at hA hval
  obtain ⟨hargs, rfl, rfl⟩ := trodAll_nil hA
  obtain rfl : args = #[] := by cases args; simp_all
  obtain ⟨rfl, rfl⟩ := trodVars_none hV
  clear hA0 hval0
  simp only [List.append_nil] at hW'
  refine (objNames_walk  W).mono fun e W' ⟨he, hg⟩ => ?_
  subst he
  exact ⟨_, rfl, post_of_none hW' (fun _ _ _ => (trodAll_cons_mk (shut_bool Tryz.underlying4 _) trodAll_mk0)) (fun sp => trodAll_mk0) (fun _ => rfl)
    hg.1 (ok_one (by kernel_rfl) rfl (okWide_bool_mk Tryz.underlying4 _))⟩

theorem objNames_holds : Rows.ObjNamesSaid :=
  OpenClaim.holds_of_wide 5 Tryz.f5 rfl rfl rfl rfl rfl rfl rfl ⟨rfl, rfl, rfl, rfl, rfl⟩ rfl rfl rfl rfl rfl (by kernel_rfl) Tryz.func5 (by kernel_rfl)
    (of_decide_eq_true (by kernel_rfl)) (by unfold Func.isWrapper; first | (rw [if_pos (by decide +kernel)]; kernel_rfl) | (rw [if_neg (by decide +kernel)]; exact ⟨rfl, rfl⟩))
    (fun os started H enc _ => objNames_lifted os started H enc)

#print axioms objNames_holds

end Go.Proofs.YtlldgmdgogkdiaaGreat

