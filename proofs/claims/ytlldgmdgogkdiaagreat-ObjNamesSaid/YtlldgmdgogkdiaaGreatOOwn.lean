/- The helper own of layer 8's laws: a message in new memory, by a walk. -/
import Derived.Test.YtlldgmdgogkdiaaGreatOSpoilG
import Derived.Test.YtlldgmdgogkdiaaGreatOLawM
import Derived.Test.YtlldgmdgogkdiaaGreatRowsG
import Derived.SizedLaws
namespace Go.Proofs.YtlldgmdgogkdiaaGreat
set_option linter.unusedVariables false
set_option maxRecDepth 20000
open Go.ChangeShapes Go.WideShapes Go.ChangeAt Go.RowKit Go.Joins
open Go.ChangeMaps (open_string shut_string)

theorem cellsK_back (ks : List IntKind) : ∀ (L : List (List Int)), (∀ x ∈ L, x.length = ks.length) → ∀ (j : Nat) u, (cellsK ks L)[j]? = some u → ∃ i k x, j = i * ks.length + k ∧ L[i]? = some x ∧ (List.zipWith Value.int ks x)[k]? = some u
  | [], _, j, u, h => by simp [cellsK] at h
  | y :: L, hl, j, u, h => by
    have e : cellsK ks (y :: L) = List.zipWith Value.int ks y ++ cellsK ks L := rfl
    have e2 : (List.zipWith Value.int ks y).length = ks.length := by rw [List.length_zipWith, hl y (.head _), Nat.min_self]
    rw [e] at h
    by_cases c : j < ks.length
    · rw [List.getElem?_append_left (by omega)] at h
      exact ⟨0, j, y, by omega, rfl, h⟩
    · rw [List.getElem?_append_right (by omega), e2] at h
      obtain ⟨i, k, x, hj, hx, hu⟩ := cellsK_back ks L (fun z hz => hl z (.tail _ hz)) _ u h
      exact ⟨i + 1, k, x, by rw [Nat.add_mul]; omega, by simpa using hx, hu⟩
/-- A row's cells, one behind the other. -/
theorem row_flat {w : World} {A : Option Addr} {ks : List IntKind} {L : List (List Int)} {size : Nat} (hs : size = ks.length) (hl : ∀ x ∈ L, x.length = ks.length) (h : RowAt w A size (rowsK ks L)) : ∀ a, A = some a → ∀ j u, (cellsK ks L)[j]? = some u → w.cell? (a.add j) = some u := by
  subst hs
  intro a e j u hu
  obtain ⟨i, k, x, hj, hx, hk⟩ := cellsK_back ks L hl j u hu
  have q := (h.cell a e i _ (rowsK_at hx)).2 k u hk
  have ea : (a.add (i * ks.length)).add k = a.add (i * ks.length + k) := by
    unfold Addr.add
    by_cases h1 : i * ks.length = 0
    · simp [h1]
    · by_cases h2 : k = 0
      · subst h2; simp [h1]
      · simp [h1, h2, Nat.add_assoc]
  rw [hj, ← ea]; exact q
theorem cellsK_one (ks : List IntKind) (L : List (List Int)) : ∀ u ∈ cellsK ks L, u.oneCell' = true := by
  intro u hu
  unfold cellsK at hu
  obtain ⟨x, _, hx⟩ := List.mem_flatMap.1 hu
  obtain ⟨i, hi⟩ := List.mem_iff_getElem?.1 hx
  rw [List.getElem?_zipWith] at hi
  split at hi
  · injection hi with hi; subst hi; rfl
  · cases hi
theorem row_few {w : World} {A : Option Addr} {size : Nat} {ks : List IntKind} {L : List (List Int)} {n : Nat} (hn : L.length = n) (h : RowAt w A size (rowsK ks L)) : A = none → n = 0 := by
  intro e
  have q := h.none_ e
  cases L with
  | nil => exact hn.symm
  | cons x L => simp [rowsK] at q
theorem row_cells {ks : List IntKind} {L : List (List Int)} {n size : Nat} (hs : size = ks.length) (hl : ∀ x ∈ L, x.length = ks.length) (hn : L.length = n) : (cellsK ks L).length = n * size := by
  rw [cellsK_len ks L hl, hn, hs]
theorem repNode_row {w : World} {c : Array Value} {vs : List ValN} (h : RepNode w c vs) : ∃ A n cap L, c[7]? = some (.slice A n cap) ∧ RowAt w A 2 (rowsK ksArm L) ∧ L.length = n ∧ n < 1000000 ∧ (∀ x ∈ L, x.length = ksArm.length) ∧ ∀ w' B cap', RowAt w' B 2 (rowsK ksArm L) → RepNode w' (c.setIfInBounds 7 (.slice B n cap')) vs := by
  obtain ⟨v0, v1, v2, v3, v4, v5, v6, v8, A, n, cap, L, rfl, rfl, w0, w1, w2, w3, w4, w5, w6, w8, hA, hn, hn9, hL⟩ := h
  exact ⟨A, n, cap, L, rfl, hA, hn, hn9, fun x hx => (hL x hx).1, fun w' B cap' q => ⟨v0, v1, v2, v3, v4, v5, v6, v8, B, n, cap', L, rfl, rfl, w0, w1, w2, w3, w4, w5, w6, w8, q, hn, hn9, hL⟩⟩
theorem repTable_row {w : World} {c : Array Value} {vs : List ValN} (h : RepTable w c vs) : ∃ A n cap L, c[2]? = some (.slice A n cap) ∧ RowAt w A 1 (rowsK ksKey L) ∧ L.length = n ∧ n < 1000000 ∧ (∀ x ∈ L, x.length = ksKey.length) ∧ ∀ w' B cap', RowAt w' B 1 (rowsK ksKey L) → RepTable w' (c.setIfInBounds 2 (.slice B n cap')) vs := by
  obtain ⟨v0, v1, v3, v4, A, n, cap, L, rfl, rfl, w0, w1, w3, w4, hA, hn, hn9, hL⟩ := h
  exact ⟨A, n, cap, L, rfl, hA, hn, hn9, fun x hx => (hL x hx).1, fun w' B cap' q => ⟨v0, v1, v3, v4, B, n, cap', L, rfl, rfl, w0, w1, w3, w4, q, hn, hn9, hL⟩⟩
theorem repEntry_row {w : World} {c : Array Value} {vs : List ValN} (h : RepEntry w c vs) : ∃ A n cap L, c[6]? = some (.slice A n cap) ∧ RowAt w A 1 (rowsK ksArg L) ∧ L.length = n ∧ n < 1000000 ∧ (∀ x ∈ L, x.length = ksArg.length) ∧ ∀ w' B cap', RowAt w' B 1 (rowsK ksArg L) → RepEntry w' (c.setIfInBounds 6 (.slice B n cap')) vs := by
  obtain ⟨v0, v3, v4, v5, v7, v8, v9, v1, v2, v10, A, n, cap, L, rfl, rfl, w0, w1, w2, w3, w4, w5, w7, w8, w9, hA, hn, hn9, hL⟩ := h
  exact ⟨A, n, cap, L, rfl, hA, hn, hn9, fun x hx => (hL x hx).1, fun w' B cap' q => ⟨v0, v3, v4, v5, v7, v8, v9, v1, v2, v10, B, n, cap', L, rfl, rfl, w0, w1, w2, w3, w4, w5, w7, w8, w9, q, hn, hn9, hL⟩⟩
theorem repBlock_row {w : World} {c : Array Value} {vs : List ValN} (h : RepBlock w c vs) : ∃ A n cap L, c[1]? = some (.slice A n cap) ∧ RowAt w A 7 (rowsK ksInstr L) ∧ L.length = n ∧ n < 1000000 ∧ (∀ x ∈ L, x.length = ksInstr.length) ∧ ∀ w' B cap', RowAt w' B 7 (rowsK ksInstr L) → RepBlock w' (c.setIfInBounds 1 (.slice B n cap')) vs := by
  obtain ⟨v0, A, n, cap, L, rfl, rfl, w0, hA, hn, hn9, hL⟩ := h
  exact ⟨A, n, cap, L, rfl, hA, hn, hn9, fun x hx => (hL x hx).1, fun w' B cap' q => ⟨v0, B, n, cap', L, rfl, rfl, w0, q, hn, hn9, hL⟩⟩
theorem repGroup_row {w : World} {c : Array Value} {vs : List ValN} (h : RepGroup w c vs) : ∃ A n cap L, c[3]? = some (.slice A n cap) ∧ RowAt w A 2 (rowsK ksBucket L) ∧ L.length = n ∧ n < 1000000 ∧ (∀ x ∈ L, x.length = ksBucket.length) ∧ ∀ w' B cap', RowAt w' B 2 (rowsK ksBucket L) → RepGroup w' (c.setIfInBounds 3 (.slice B n cap')) vs := by
  obtain ⟨v0, v1, v2, A, n, cap, L, rfl, rfl, w0, w1, w2, hA, hn, hn9, hL⟩ := h
  exact ⟨A, n, cap, L, rfl, hA, hn, hn9, fun x hx => (hL x hx).1, fun w' B cap' q => ⟨v0, v1, v2, B, n, cap', L, rfl, rfl, w0, w1, w2, q, hn, hn9, hL⟩⟩
theorem RepA.own5 {w w' : World} {M : Array Value} {V : Nat → List ValN} (R : RepA w M V) (g : Wider w w') {a b c d e : Value} (h0 : RepNode w' ((M.extract 11 20).setIfInBounds 7 a) (V 0)) (h2 : RepTable w' ((M.extract 25 30).setIfInBounds 2 b) (V 2)) (h3 : RepEntry w' ((M.extract 30 41).setIfInBounds 6 c) (V 3)) (h4 : RepBlock w' ((M.extract 41 43).setIfInBounds 1 d) (V 4)) (h5 : RepGroup w' ((M.extract 43 47).setIfInBounds 3 e) (V 5)) :
    RepA w' (((((M.setIfInBounds 18 a).setIfInBounds 27 b).setIfInBounds 36 c).setIfInBounds 42 d).setIfInBounds 46 e) V := by
  have sM := R.size
  have k0 : (((((M.setIfInBounds 18 a).setIfInBounds 27 b).setIfInBounds 36 c).setIfInBounds 42 d).setIfInBounds 46 e).size = 52 := by simp [sM]
  have q0 : RepNode w' ((((((M.setIfInBounds 18 a).setIfInBounds 27 b).setIfInBounds 36 c).setIfInBounds 42 d).setIfInBounds 46 e).extract 11 20) (V 0) := by
    rw [set_out e (by decide) (by simp [sM]), set_out d (by decide) (by simp [sM]), set_out c (by decide) (by simp [sM]), set_out b (by decide) (by simp [sM]), set_in a (by decide) (by decide) (by simp [sM])]
    exact h0
  have q1 : RepField w' ((((((M.setIfInBounds 18 a).setIfInBounds 27 b).setIfInBounds 36 c).setIfInBounds 42 d).setIfInBounds 46 e).extract 20 25) (V 1) := by
    rw [set_out e (by decide) (by simp [sM]), set_out d (by decide) (by simp [sM]), set_out c (by decide) (by simp [sM]), set_out b (by decide) (by simp [sM]), set_out a (by decide) (by simp [sM])]
    exact (R.on g).r1
  have q2 : RepTable w' ((((((M.setIfInBounds 18 a).setIfInBounds 27 b).setIfInBounds 36 c).setIfInBounds 42 d).setIfInBounds 46 e).extract 25 30) (V 2) := by
    rw [set_out e (by decide) (by simp [sM]), set_out d (by decide) (by simp [sM]), set_out c (by decide) (by simp [sM]), set_in b (by decide) (by decide) (by simp [sM]), set_out a (by decide) (by simp [sM])]
    exact h2
  have q3 : RepEntry w' ((((((M.setIfInBounds 18 a).setIfInBounds 27 b).setIfInBounds 36 c).setIfInBounds 42 d).setIfInBounds 46 e).extract 30 41) (V 3) := by
    rw [set_out e (by decide) (by simp [sM]), set_out d (by decide) (by simp [sM]), set_in c (by decide) (by decide) (by simp [sM]), set_out b (by decide) (by simp [sM]), set_out a (by decide) (by simp [sM])]
    exact h3
  have q4 : RepBlock w' ((((((M.setIfInBounds 18 a).setIfInBounds 27 b).setIfInBounds 36 c).setIfInBounds 42 d).setIfInBounds 46 e).extract 41 43) (V 4) := by
    rw [set_out e (by decide) (by simp [sM]), set_in d (by decide) (by decide) (by simp [sM]), set_out c (by decide) (by simp [sM]), set_out b (by decide) (by simp [sM]), set_out a (by decide) (by simp [sM])]
    exact h4
  have q5 : RepGroup w' ((((((M.setIfInBounds 18 a).setIfInBounds 27 b).setIfInBounds 36 c).setIfInBounds 42 d).setIfInBounds 46 e).extract 43 47) (V 5) := by
    rw [set_in e (by decide) (by decide) (by simp [sM]), set_out d (by decide) (by simp [sM]), set_out c (by decide) (by simp [sM]), set_out b (by decide) (by simp [sM]), set_out a (by decide) (by simp [sM])]
    exact h5
  have q6 : RepMeter w' ((((((M.setIfInBounds 18 a).setIfInBounds 27 b).setIfInBounds 36 c).setIfInBounds 42 d).setIfInBounds 46 e).extract 47 50) (V 6) := by
    rw [set_out e (by decide) (by simp [sM]), set_out d (by decide) (by simp [sM]), set_out c (by decide) (by simp [sM]), set_out b (by decide) (by simp [sM]), set_out a (by decide) (by simp [sM])]
    exact (R.on g).r6
  have q7 : RepRegs w' ((((((M.setIfInBounds 18 a).setIfInBounds 27 b).setIfInBounds 36 c).setIfInBounds 42 d).setIfInBounds 46 e).extract 50 52) (V 7) := by
    rw [set_out e (by decide) (by simp [sM]), set_out d (by decide) (by simp [sM]), set_out c (by decide) (by simp [sM]), set_out b (by decide) (by simp [sM]), set_out a (by decide) (by simp [sM])]
    exact (R.on g).r7
  exact ⟨k0, q0, q1, q2, q3, q4, q5, q6, q7⟩
set_option maxHeartbeats 16000000 in
theorem own_c (w : World) {M : Array Value} {V : Nat → List ValN} (R : RepA w M V) (o0 : M.all (·.oneCell') = true) :
    Calls Tryz.prog 11 #[.agg M] w fun e w' => ∃ M', e = .returned (.agg M') ∧ Wider w w' ∧ RepA w' M' V ∧ M'.all (·.oneCell') = true := by
  have s0 := R.size
  obtain ⟨A0, n0, c0, L0, e0, r0, l0, f0, k0, z0⟩ := repNode_row R.r0
  replace e0 := cell_of (o := 18) 7 e0 (by rw [s0]; decide) rfl
  have S0 := Lib.hid (row_cells (size := 2) rfl k0 l0)
  have N0 := Lib.hid (row_few l0 r0)
  have O0 := Lib.hid (cellsK_one ksArm L0)
  have X0 : Hid (0 + n0 ≤ maxLen) := by show _ ≤ maxLen; unfold maxLen; omega
  have Y0 : Hid ((0 + n0) * 16 ≤ 140737488355328) := by show _ ≤ _; omega
  have Z0 : Hid (0 + n0 = n0) := Nat.zero_add _
  obtain ⟨i0, hi0, hp0, hq0, hr0⟩ := info_parts infoArm
  obtain ⟨A1, n1, c1, L1, e1, r1, l1, f1, k1, z1⟩ := repTable_row R.r2
  replace e1 := cell_of (o := 27) 2 e1 (by rw [s0]; decide) rfl
  have S1 := Lib.hid (row_cells (size := 1) rfl k1 l1)
  have N1 := Lib.hid (row_few l1 r1)
  have O1 := Lib.hid (cellsK_one ksKey L1)
  have X1 : Hid (0 + n1 ≤ maxLen) := by show _ ≤ maxLen; unfold maxLen; omega
  have Y1 : Hid ((0 + n1) * 8 ≤ 140737488355328) := by show _ ≤ _; omega
  have Z1 : Hid (0 + n1 = n1) := Nat.zero_add _
  obtain ⟨i1, hi1, hp1, hq1, hr1⟩ := info_parts infoKey
  obtain ⟨A2, n2, c2, L2, e2, r2, l2, f2, k2, z2⟩ := repEntry_row R.r3
  replace e2 := cell_of (o := 36) 6 e2 (by rw [s0]; decide) rfl
  have S2 := Lib.hid (row_cells (size := 1) rfl k2 l2)
  have N2 := Lib.hid (row_few l2 r2)
  have O2 := Lib.hid (cellsK_one ksArg L2)
  have X2 : Hid (0 + n2 ≤ maxLen) := by show _ ≤ maxLen; unfold maxLen; omega
  have Y2 : Hid ((0 + n2) * 8 ≤ 140737488355328) := by show _ ≤ _; omega
  have Z2 : Hid (0 + n2 = n2) := Nat.zero_add _
  obtain ⟨i2, hi2, hp2, hq2, hr2⟩ := info_parts infoArg
  obtain ⟨A3, n3, c3, L3, e3, r3, l3, f3, k3, z3⟩ := repBlock_row R.r4
  replace e3 := cell_of (o := 42) 1 e3 (by rw [s0]; decide) rfl
  have S3 := Lib.hid (row_cells (size := 7) rfl k3 l3)
  have N3 := Lib.hid (row_few l3 r3)
  have O3 := Lib.hid (cellsK_one ksInstr L3)
  have X3 : Hid (0 + n3 ≤ maxLen) := by show _ ≤ maxLen; unfold maxLen; omega
  have Y3 : Hid ((0 + n3) * 56 ≤ 140737488355328) := by show _ ≤ _; omega
  have Z3 : Hid (0 + n3 = n3) := Nat.zero_add _
  obtain ⟨i3, hi3, hp3, hq3, hr3⟩ := info_parts infoInstr
  obtain ⟨A4, n4, c4, L4, e4, r4, l4, f4, k4, z4⟩ := repGroup_row R.r5
  replace e4 := cell_of (o := 46) 3 e4 (by rw [s0]; decide) rfl
  have S4 := Lib.hid (row_cells (size := 2) rfl k4 l4)
  have N4 := Lib.hid (row_few l4 r4)
  have O4 := Lib.hid (cellsK_one ksBucket L4)
  have X4 : Hid (0 + n4 ≤ maxLen) := by show _ ≤ maxLen; unfold maxLen; omega
  have Y4 : Hid ((0 + n4) * 16 ≤ 140737488355328) := by show _ ≤ _; omega
  have Z4 : Hid (0 + n4 = n4) := Nat.zero_add _
  obtain ⟨i4, hi4, hp4, hq4, hr4⟩ := info_parts infoBucket
  have H0 := ((Own.nil (Wider.refl w)).blk M 46).blk zM 46
  have hz : (w.alloc (.cells M 46)).heap.size = w.heap.size + 1 := by simp
  rw [hz] at H0
  have H := H0.swap
  clear H0 hz
  go_enter Tryz.func11, Tryz.ntmps11
  go_upto_region 1 with (fail)
  obtain ⟨w0, hw0⟩ : ∃ w0, (w.alloc (.cells M 46)).alloc (.cells zM 46) = w0 := ⟨_, rfl⟩
  rw [hw0] at H ⊢
  clear hw0
  obtain ⟨M0, hM0⟩ : ∃ M0, M = M0 := ⟨_, rfl⟩
  rw [hM0] at H o0 s0 e0 e1 e2 e3 e4
  have H1 := Lib.hid (H.empty 71 2)
  have hc := blk_cell H1.out.second 18 e0
  have LA := Lib.hid (row_flat rfl k0 (r0.on H1.out.wider))
  go_upto_region 2 with (first
    | (with_reducible refine wpList_field rfl 46 (.tmp 1) 11 rfl w.heap.size 0 11 rfl (fieldM11 _) ?_)
    | (with_reducible refine wpList_field rfl 27 (.tmp 4) 7 rfl w.heap.size 11 18 rfl (fieldRowNode _ _) ?_)
    | (with_reducible refine wpList_field rfl 46 (.tmp 1) 11 rfl w.heap.size 0 11 rfl (fieldM11 _) ?_)
    | (with_reducible refine wpList_field rfl 27 (.tmp 8) 7 rfl w.heap.size 11 18 rfl (fieldRowNode _ _) ?_)
    | (at_builtin; refine wpList_append_thing rfl (.tmp 3) (.tmp 6) 25 rfl 71 i0 (.agg #[.int .u32 0, .int .i64 0]) 2 16 Tryz.underlying25 hi0 hp0 hq0 hr0 rfl (by decide) (.slice (some ⟨w0.heap.size, 0, none⟩) 0 0) 0 [] rfl H1.out A0 n0 c0 (cellsK ksArm L0) rfl S0.out N0.out LA.out O0.out X0.out Y0.out Z0.out rfl ?_; intro B0 d0 W0 H5; have H6 := Lib.hid H5.swap; clear H5 LA hc H1; have hc := blk_cell H6.out.head 18 e0; have hf := blk_free H6.out.head 18))
  replace H := H6.out.store 18 (.slice B0 n0 d0)
  clear H6 hc hf
  obtain ⟨w1, hw⟩ : ∃ w1, W0.setCell ⟨w.heap.size, 18, none⟩ (.slice B0 n0 d0) = w1 := ⟨_, rfl⟩
  rw [hw] at H ⊢
  clear hw
  replace e1 : (M0.setIfInBounds 18 (.slice B0 n0 d0))[27]? = _ := (Array.getElem?_setIfInBounds_ne (by decide)).trans e1
  replace e2 : (M0.setIfInBounds 18 (.slice B0 n0 d0))[36]? = _ := (Array.getElem?_setIfInBounds_ne (by decide)).trans e2
  replace e3 : (M0.setIfInBounds 18 (.slice B0 n0 d0))[42]? = _ := (Array.getElem?_setIfInBounds_ne (by decide)).trans e3
  replace e4 : (M0.setIfInBounds 18 (.slice B0 n0 d0))[46]? = _ := (Array.getElem?_setIfInBounds_ne (by decide)).trans e4
  have o1 := set_one (j := 18) (v := .slice B0 n0 d0) o0 rfl
  have s1 : (M0.setIfInBounds 18 (.slice B0 n0 d0)).size = 52 := by rw [Array.size_setIfInBounds]; exact s0
  obtain ⟨M1, hM1⟩ : ∃ N, M0.setIfInBounds 18 (.slice B0 n0 d0) = N := ⟨_, rfl⟩
  rw [hM1] at H o1 s1 e1 e2 e3 e4
  clear o0
  have H1 := Lib.hid (H.empty 3 1)
  have hc := blk_cell H1.out.second 27 e1
  have LA := Lib.hid (row_flat rfl k1 (r1.on H1.out.wider))
  go_upto_region 3 with (first
    | (with_reducible refine wpList_field rfl 46 (.tmp 1) 13 rfl w.heap.size 0 25 rfl (fieldM13 _) ?_)
    | (with_reducible refine wpList_field rfl 32 (.tmp 11) 2 rfl w.heap.size 25 27 rfl (fieldRowTable _ _) ?_)
    | (with_reducible refine wpList_field rfl 46 (.tmp 1) 13 rfl w.heap.size 0 25 rfl (fieldM13 _) ?_)
    | (with_reducible refine wpList_field rfl 32 (.tmp 15) 2 rfl w.heap.size 25 27 rfl (fieldRowTable _ _) ?_)
    | (at_builtin; refine wpList_append_thing rfl (.tmp 10) (.tmp 13) 30 rfl 3 i1 (.int .i64 0) 1 8 Tryz.underlying30 hi1 hp1 hq1 hr1 rfl (by decide) (.slice (some ⟨w1.heap.size, 0, none⟩) 0 0) 0 [] rfl H1.out A1 n1 c1 (cellsK ksKey L1) rfl S1.out N1.out LA.out O1.out X1.out Y1.out Z1.out rfl ?_; intro B1 d1 W1 H5; have H6 := Lib.hid H5.swap; clear H5 LA hc H1; have hc := blk_cell H6.out.head 27 e1; have hf := blk_free H6.out.head 27))
  replace H := H6.out.store 27 (.slice B1 n1 d1)
  clear H6 hc hf
  obtain ⟨w2, hw⟩ : ∃ w1, W1.setCell ⟨w.heap.size, 27, none⟩ (.slice B1 n1 d1) = w1 := ⟨_, rfl⟩
  rw [hw] at H ⊢
  clear hw
  replace e2 : (M1.setIfInBounds 27 (.slice B1 n1 d1))[36]? = _ := (Array.getElem?_setIfInBounds_ne (by decide)).trans e2
  replace e3 : (M1.setIfInBounds 27 (.slice B1 n1 d1))[42]? = _ := (Array.getElem?_setIfInBounds_ne (by decide)).trans e3
  replace e4 : (M1.setIfInBounds 27 (.slice B1 n1 d1))[46]? = _ := (Array.getElem?_setIfInBounds_ne (by decide)).trans e4
  have o2 := set_one (j := 27) (v := .slice B1 n1 d1) o1 rfl
  have s2 : (M1.setIfInBounds 27 (.slice B1 n1 d1)).size = 52 := by rw [Array.size_setIfInBounds]; exact s1
  obtain ⟨M2, hM2⟩ : ∃ N, M1.setIfInBounds 27 (.slice B1 n1 d1) = N := ⟨_, rfl⟩
  rw [hM2] at H o2 s2 e2 e3 e4
  clear o1
  have H1 := Lib.hid (H.empty 23 1)
  have hc := blk_cell H1.out.second 36 e2
  have LA := Lib.hid (row_flat rfl k2 (r2.on H1.out.wider))
  go_upto_region 4 with (first
    | (with_reducible refine wpList_field rfl 46 (.tmp 1) 14 rfl w.heap.size 0 30 rfl (fieldM14 _) ?_)
    | (with_reducible refine wpList_field rfl 34 (.tmp 18) 6 rfl w.heap.size 30 36 rfl (fieldRowEntry _ _) ?_)
    | (with_reducible refine wpList_field rfl 46 (.tmp 1) 14 rfl w.heap.size 0 30 rfl (fieldM14 _) ?_)
    | (with_reducible refine wpList_field rfl 34 (.tmp 22) 6 rfl w.heap.size 30 36 rfl (fieldRowEntry _ _) ?_)
    | (at_builtin; refine wpList_append_thing rfl (.tmp 17) (.tmp 20) 24 rfl 23 i2 (.int .u64 0) 1 8 Tryz.underlying24 hi2 hp2 hq2 hr2 rfl (by decide) (.slice (some ⟨w2.heap.size, 0, none⟩) 0 0) 0 [] rfl H1.out A2 n2 c2 (cellsK ksArg L2) rfl S2.out N2.out LA.out O2.out X2.out Y2.out Z2.out rfl ?_; intro B2 d2 W2 H5; have H6 := Lib.hid H5.swap; clear H5 LA hc H1; have hc := blk_cell H6.out.head 36 e2; have hf := blk_free H6.out.head 36))
  replace H := H6.out.store 36 (.slice B2 n2 d2)
  clear H6 hc hf
  obtain ⟨w3, hw⟩ : ∃ w1, W2.setCell ⟨w.heap.size, 36, none⟩ (.slice B2 n2 d2) = w1 := ⟨_, rfl⟩
  rw [hw] at H ⊢
  clear hw
  replace e3 : (M2.setIfInBounds 36 (.slice B2 n2 d2))[42]? = _ := (Array.getElem?_setIfInBounds_ne (by decide)).trans e3
  replace e4 : (M2.setIfInBounds 36 (.slice B2 n2 d2))[46]? = _ := (Array.getElem?_setIfInBounds_ne (by decide)).trans e4
  have o3 := set_one (j := 36) (v := .slice B2 n2 d2) o2 rfl
  have s3 : (M2.setIfInBounds 36 (.slice B2 n2 d2)).size = 52 := by rw [Array.size_setIfInBounds]; exact s2
  obtain ⟨M3, hM3⟩ : ∃ N, M2.setIfInBounds 36 (.slice B2 n2 d2) = N := ⟨_, rfl⟩
  rw [hM3] at H o3 s3 e3 e4
  clear o2
  have H1 := Lib.hid (H.empty 82 7)
  have hc := blk_cell H1.out.second 42 e3
  have LA := Lib.hid (row_flat rfl k3 (r3.on H1.out.wider))
  go_upto_region 5 with (first
    | (with_reducible refine wpList_field rfl 46 (.tmp 1) 15 rfl w.heap.size 0 41 rfl (fieldM15 _) ?_)
    | (with_reducible refine wpList_field rfl 37 (.tmp 25) 1 rfl w.heap.size 41 42 rfl (fieldRowBlock _ _) ?_)
    | (with_reducible refine wpList_field rfl 46 (.tmp 1) 15 rfl w.heap.size 0 41 rfl (fieldM15 _) ?_)
    | (with_reducible refine wpList_field rfl 37 (.tmp 29) 1 rfl w.heap.size 41 42 rfl (fieldRowBlock _ _) ?_)
    | (at_builtin; refine wpList_append_thing rfl (.tmp 24) (.tmp 27) 35 rfl 82 i3 (.agg #[.int .u8 0, .int .i64 0, .int .u8 0, .int .u64 0, .int .u8 0, .int .u64 0, .int .i64 0]) 7 56 Tryz.underlying35 hi3 hp3 hq3 hr3 rfl (by decide) (.slice (some ⟨w3.heap.size, 0, none⟩) 0 0) 0 [] rfl H1.out A3 n3 c3 (cellsK ksInstr L3) rfl S3.out N3.out LA.out O3.out X3.out Y3.out Z3.out rfl ?_; intro B3 d3 W3 H5; have H6 := Lib.hid H5.swap; clear H5 LA hc H1; have hc := blk_cell H6.out.head 42 e3; have hf := blk_free H6.out.head 42))
  replace H := H6.out.store 42 (.slice B3 n3 d3)
  clear H6 hc hf
  obtain ⟨w4, hw⟩ : ∃ w1, W3.setCell ⟨w.heap.size, 42, none⟩ (.slice B3 n3 d3) = w1 := ⟨_, rfl⟩
  rw [hw] at H ⊢
  clear hw
  replace e4 : (M3.setIfInBounds 42 (.slice B3 n3 d3))[46]? = _ := (Array.getElem?_setIfInBounds_ne (by decide)).trans e4
  have o4 := set_one (j := 42) (v := .slice B3 n3 d3) o3 rfl
  have s4 : (M3.setIfInBounds 42 (.slice B3 n3 d3)).size = 52 := by rw [Array.size_setIfInBounds]; exact s3
  obtain ⟨M4, hM4⟩ : ∃ N, M3.setIfInBounds 42 (.slice B3 n3 d3) = N := ⟨_, rfl⟩
  rw [hM4] at H o4 s4 e4
  clear o3
  have H1 := Lib.hid (H.empty 114 2)
  have hc := blk_cell H1.out.second 46 e4
  have LA := Lib.hid (row_flat rfl k4 (r4.on H1.out.wider))
  go_upto_region 6 with (first
    | (with_reducible refine wpList_field rfl 46 (.tmp 1) 16 rfl w.heap.size 0 43 rfl (fieldM16 _) ?_)
    | (with_reducible refine wpList_field rfl 40 (.tmp 32) 3 rfl w.heap.size 43 46 rfl (fieldRowGroup _ _) ?_)
    | (with_reducible refine wpList_field rfl 46 (.tmp 1) 16 rfl w.heap.size 0 43 rfl (fieldM16 _) ?_)
    | (with_reducible refine wpList_field rfl 40 (.tmp 36) 3 rfl w.heap.size 43 46 rfl (fieldRowGroup _ _) ?_)
    | (at_builtin; refine wpList_append_thing rfl (.tmp 31) (.tmp 34) 38 rfl 114 i4 (.agg #[.int .u64 0, .int .i64 0]) 2 16 Tryz.underlying38 hi4 hp4 hq4 hr4 rfl (by decide) (.slice (some ⟨w4.heap.size, 0, none⟩) 0 0) 0 [] rfl H1.out A4 n4 c4 (cellsK ksBucket L4) rfl S4.out N4.out LA.out O4.out X4.out Y4.out Z4.out rfl ?_; intro B4 d4 W4 H5; have H6 := Lib.hid H5.swap; clear H5 LA hc H1; have hc := blk_cell H6.out.head 46 e4; have hf := blk_free H6.out.head 46))
  replace H := H6.out.store 46 (.slice B4 n4 d4)
  clear H6 hc hf
  obtain ⟨w5, hw⟩ : ∃ w1, W4.setCell ⟨w.heap.size, 46, none⟩ (.slice B4 n4 d4) = w1 := ⟨_, rfl⟩
  rw [hw] at H ⊢
  clear hw
  have o5 := set_one (j := 46) (v := .slice B4 n4 d4) o4 rfl
  have s5 : (M4.setIfInBounds 46 (.slice B4 n4 d4)).size = 52 := by rw [Array.size_setIfInBounds]; exact s4
  obtain ⟨M5, hM5⟩ : ∃ N, M4.setIfInBounds 46 (.slice B4 n4 d4) = N := ⟨_, rfl⟩
  rw [hM5] at H o5 s5
  clear o4
  have H2 := H.perm (M := [blkT (w.heap.size + 1) zM 46, blkT w.heap.size M5 46, rowT 114 2 (.slice B4 n4 d4) n4 (cellsK ksBucket L4), rowT 82 7 (.slice B3 n3 d3) n3 (cellsK ksInstr L3), rowT 23 1 (.slice B2 n2 d2) n2 (cellsK ksArg L2), rowT 3 1 (.slice B1 n1 d1) n1 (cellsK ksKey L1), rowT 71 2 (.slice B0 n0 d0) n0 (cellsK ksArm L0)]) (List.perm_append_comm (l₁ := [blkT w.heap.size M5 46, rowT 114 2 (.slice B4 n4 d4) n4 (cellsK ksBucket L4), rowT 82 7 (.slice B3 n3 d3) n3 (cellsK ksInstr L3), rowT 23 1 (.slice B2 n2 d2) n2 (cellsK ksArg L2), rowT 3 1 (.slice B1 n1 d1) n1 (cellsK ksKey L1), rowT 71 2 (.slice B0 n0 d0) n0 (cellsK ksArm L0)]) (l₂ := [blkT (w.heap.size + 1) zM 46]))
  have hx := H2.second
  have hy := H2.head
  go_wp2_with (first
    | (with_reducible refine wpList_load_row rfl 46 (.tmp 1) rfl w.heap.size rfl 46 M5 (0, 0) _ hx Tryz.underlying46 rfl (by rw [s5]; kernel_rfl) ?_)
    | (with_reducible refine wpList_store_row rfl 46 (.tmp 2) (.tmp 38) rfl (w.heap.size + 1) M5 rfl rfl 46 zM hy (by rw [s5]; kernel_rfl) (by rw [s5]; exact zM_size) o5 ?_; obtain ⟨g6, h6⟩ := setRow_facts M5 hy))
  have hl := run_loadVar_row (P := Tryz.prog) _ (w.heap.size + 1) 46 46 _ (0, 0) _ h6 Tryz.underlying46 rfl (by rw [s5]; kernel_rfl)
  have H3 := H2.turn (s := blkT (w.heap.size + 1) M5 46) g6 h6 (blk_stable _ _ _) (fun i m => ⟨.inl m, by simp only [List.mem_singleton] at m; subst m; exact (Array.getElem?_eq_some_iff.1 h6).1⟩)
  simp [bodyPost, results, Tryz.results11, asAddr, hl]
  have RR := R.own5 H3.wider (z0 _ B0 d0 (rowK_own (ks := ksArm) rfl (by decide) l0 k0 H3.drop.drop.drop.drop.drop.drop.head)) (z1 _ B1 d1 (rowK_own (ks := ksKey) rfl (by decide) l1 k1 H3.drop.drop.drop.drop.drop.head)) (z2 _ B2 d2 (rowK_own (ks := ksArg) rfl (by decide) l2 k2 H3.drop.drop.drop.drop.head)) (z3 _ B3 d3 (rowK_own (ks := ksInstr) rfl (by decide) l3 k3 H3.drop.drop.drop.head)) (z4 _ B4 d4 (rowK_own (ks := ksBucket) rfl (by decide) l4 k4 H3.drop.drop.head))
  rw [hM0, hM1, hM2, hM3, hM4, hM5] at RR
  exact ⟨H3.wider, RR, by simpa using o5⟩
end Go.Proofs.YtlldgmdgogkdiaaGreat
