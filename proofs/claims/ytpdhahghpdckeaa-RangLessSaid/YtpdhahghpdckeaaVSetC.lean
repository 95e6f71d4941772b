/- Package rang: a range put. -/
import Derived.Test.YtpdhahghpdckeaaVSetB
import Derived.Lib.SliceRun
namespace Go.Proofs.Ytpdhahghpdckeaa
set_option linter.unusedVariables false
open Go.ChangeShapes Go.WideShapes Go.ChangeAt Go.RowKit Go.Joins

theorem Own.drop4 {V w : World} {a b c d : Thing} {L : List Thing} (h : Own V w (a :: b :: c :: d :: L)) : Own V w (a :: b :: c :: L) := (h.perm (List.perm_middle (l₁ := [a, b, c]))).drop
variable {V w : World} {R : List Thing} {S N : Nat} {ws : List Nat} {L : List ItR}
theorem cellsR_lies (w : World) (x : ItR) : (∀ a : Addr, some (⟨w.heap.size, 0, none⟩ : Addr) = some a → ∀ j u, (cellsR [x])[j]? = some u → (w.alloc (.cells #[.string x.low, .string x.high, .int .i64 x.prio, .int .i64 x.v] 42)).cell? (a.add j) = some u) := fun a e j u hu => by
  cases e
  rw [Addr.add_lit, Nat.zero_add, World.cell?_alloc_new]
  simpa [cellsR, cellsOneR] using hu
set_option maxRecDepth 20000 in
set_option maxHeartbeats 4000000 in
theorem vput_o (h : RangIs V w R S ws L N) (hN : N < 99990) {low high : ByteArray} {prio v : Int} (hf : FormR ws ⟨low, high, prio, v⟩) {M : List ItR} (hM : butR L ⟨low, high, prio, v⟩ ++ [⟨low, high, prio, v⟩] = M) :
    Calls Try.prog 10 #[.pointer (some ⟨S, 0, none⟩), .string low, .string high, .int .i64 prio, .int .i64 v] w fun e w' => e = .returned (.int .i64 0) ∧ RangIs V w' R S ws M (N + 1) := by
  have hl := h.good
  have hsum := hl.sum
  obtain ⟨k1, k2, hf3⟩ := hf
  have hf1 : low.size = ws.sum := k1
  have hf2 : high.size = ws.sum := k2
  obtain ⟨sz, hsz⟩ : ∃ sz, ws.sum = sz := ⟨_, rfl⟩
  have z0 : ((low.size : Int) != (sz : Int)) = false := by rw [hf1, hsz]; simp
  have z1 : ((high.size : Int) != (sz : Int)) = false := by rw [hf2, hsz]; simp
  have z2 : ((low.size : Int) == (sz : Int)) = true := by rw [hf1, hsz]; simp
  have z3 : ((high.size : Int) == (sz : Int)) = true := by rw [hf2, hsz]; simp
  have h1 := h.blk #[.string low, .string high, .int .i64 prio, .int .i64 v] 42
  obtain ⟨b0, b1, b2, b3⟩ := newR w ⟨low, high, prio, v⟩
  have b0 : (w.alloc (.cells #[.string low, .string high, .int .i64 prio, .int .i64 v] 42)).cell? ⟨w.heap.size, 0, none⟩ = some (.string low) := b0
  have b1 : (w.alloc (.cells #[.string low, .string high, .int .i64 prio, .int .i64 v] 42)).cell? ⟨w.heap.size, 1, none⟩ = some (.string high) := b1
  have b2 : (w.alloc (.cells #[.string low, .string high, .int .i64 prio, .int .i64 v] 42)).cell? ⟨w.heap.size, 2, none⟩ = some (.int .i64 prio) := b2
  have b3 : (w.alloc (.cells #[.string low, .string high, .int .i64 prio, .int .i64 v] 42)).cell? ⟨w.heap.size, 3, none⟩ = some (.int .i64 v) := b3
  obtain ⟨D, A, cw, c, c0, c1, c2, hW, hL⟩ := h1.look
  have zw := vwithin_c c0 rfl hW hl.w4 hl.sum (key := low) (x := ⟨low, high, prio, v⟩) hf1 hf1 hf2 hf3
  have zw : Calls Try.prog 23 #[.pointer (some ⟨S, 0, none⟩), .string low, .agg #[.string low, .string high, .int .i64 prio, .int .i64 v]] (w.alloc (.cells #[.string low, .string high, .int .i64 prio, .int .i64 v] 42)) fun e w' => e = .returned (.bool true) ∧ Wider _ w' := zw
  have zd := fun (W : World) (hW : RangIs V W (blkT w.heap.size #[.string low, .string high, .int .i64 prio, .int .i64 v] 42 :: R) S ws L N) => vdel_o hW hN (low := low) (high := high) (prio := prio) rfl rfl
  have zo : ∀ W, Calls Try.prog 24 #[.agg #[.string low, .string high, .int .i64 prio, .int .i64 v]] W fun e w' => e = .returned (.agg #[.string low, .string high, .int .i64 prio, .int .i64 v]) ∧ Wider W w' := vown_c ⟨low, high, prio, v⟩ (by show low.size < _; omega) (by show high.size < _; omega)
  have hp := hl.put ⟨low, high, prio, v⟩ ⟨hf1, hf2, hf3⟩
  rw [hM] at hp
  have HP := Lib.hid hp
  have HM : Hid (butR L ⟨low, high, prio, 0⟩ ++ [⟨low, high, prio, v⟩] = M) := Lib.hid hM
  rw [hsz] at c1
  have HL : Hid ((butR L ⟨low, high, prio, 0⟩).length < 99990) := Lib.hid (by have := butR_len (L := L) ⟨low, high, prio, 0⟩; have := hl.len; omega)
  have H1 := Lib.hid h1
  obtain ⟨i0, hi, hz0, hz1, hz2⟩ := info_parts infoUR
  clear h hl hsum hf1 hf2 hf3 k1 k2 h1 c0 c2 hW hL hp hM hsz
  go_enter Try.func10, Try.ntmps10
  go_upto_region 7 with (first
    | (go_at_call 23; ((with_reducible refine zw.mono ?_); rintro e w1 ⟨rfl, g⟩; have H2 := H1.out.quiet g; clear zw g))
    | (go_at_call 12; ((with_reducible refine (zd _ H2).mono ?_); rintro e w2 ⟨rfl, H3⟩; clear zd H2 b0 b1 b2 b3 H1)))


  obtain ⟨wv, iv, H4, _⟩ := H3
  obtain ⟨K, hK⟩ : ∃ K, butR L ⟨low, high, prio, 0⟩ = K := ⟨_, rfl⟩
  rw [hK] at H4 HM HL
  obtain ⟨A1, cp, rfl⟩ := ownsRow_shape H4.drop.second
  obtain ⟨B9, hB9⟩ : ∃ B, w.heap.size = B := ⟨_, rfl⟩
  rw [hB9] at H4
  obtain ⟨n, hn⟩ : ∃ n, K.length = n := ⟨_, rfl⟩
  delta rowR at H4
  rw [hn] at H4 HL
  try rw [hB9]
  have c2 := blk_cell H4.head 2 (v := .slice A1 n cp) rfl
  have b0 := blk_cell H4.drop.drop.second 0 (v := .string low) rfl
  have b1 := blk_cell H4.drop.drop.second 1 (v := .string high) rfl
  have b2 := blk_cell H4.drop.drop.second 2 (v := .int .i64 prio) rfl
  have b3 := blk_cell H4.drop.drop.second 3 (v := .int .i64 v) rfl
  have hn9 : n < 99990 := HL.out
  have H5 := H4.rot3
  have HNN := Lib.hid hn
  clear hB9 hK H4 hn c1 z0 z1 z2 z3
  have S1 : Hid (n + 1 ≤ maxLen) := by show _ ≤ maxLen; unfold maxLen; omega
  have S2 : Hid ((n + 1) * 48 ≤ 140737488355328) := by show _ ≤ _; omega
  go_region_law (first
    | (go_simp; go_at_call 24; ((with_reducible refine (zo _).mono ?_); rintro e w5 ⟨rfl, g⟩; have H6 := H5.quiet g; have H7 := H6.quiet ((Wider.refl w5).alloc (.cells #[.string low, .string high, .int .i64 prio, .int .i64 v] 42)); have cl := cellsR_lies w5 ⟨low, high, prio, v⟩; replace c2 := wkeep g c2; have c3 := wkeep ((Wider.refl w5).alloc (.cells #[.string low, .string high, .int .i64 prio, .int .i64 v] 42)) c2; clear g zo H5 b0 b1 b2 b3))
    | (refine step_append_thing rfl (.tmp 51) (.tmp 54) 34 rfl 42 i0 (.agg #[.string ⟨#[]⟩, .string ⟨#[]⟩, .int .i64 0, .int .i64 0]) 4 48 Try.underlying34 hi hz0 hz1 hz2 rfl (by decide) (.slice A1 n cp) n (cellsR K) (by simp [Act.eval]) H7 (some ⟨w5.heap.size, 0, none⟩) 1 1 (cellsR [⟨low, high, prio, v⟩]) (by simp [Act.eval]) rfl (fun e => by cases e) cl (cellsR_one _) S1.out S2.out rfl rfl ?_; intro X c9 w6 H8; have H9 := H8.rot3b; have f2 := blk_free H9.head 2; have d2 := blk_cell H9.head 2 (v := .slice A1 n cp) rfl; have H10 := H9.store 2 (.slice X (n + 1) c9)))
  all_goals
    go_wp2
    go_ret
    refine ⟨rfl, wv, .slice X (n + 1) c9, ?_, HP.out⟩
    have HH := H10.drop4
    have e : M.length = n + 1 := by rw [← HM.out, List.length_append, HNN.out]; rfl
    delta rowR
    rw [e, ← HM.out, cellsR_append]
    exact HH
theorem neR {a b : Nat} (h : a ≠ b) : ((a : Int) != (b : Int)) = true ∧ ((a : Int) == (b : Int)) = false := by
  constructor
  · simp; omega
  · simp; omega
theorem eqR {a b : Nat} (h : a = b) : ((a : Int) != (b : Int)) = false ∧ ((a : Int) == (b : Int)) = true := by
  subst h; constructor <;> simp
set_option maxRecDepth 20000 in
set_option maxHeartbeats 4000000 in
theorem vputbad_o (h : RangIs V w R S ws L N) {low high : ByteArray} {prio v : Int} (hf : ¬ FormR ws ⟨low, high, prio, v⟩) :
    Calls Try.prog 10 #[.pointer (some ⟨S, 0, none⟩), .string low, .string high, .int .i64 prio, .int .i64 v] w fun e w' => e = .returned (.int .i64 3) ∧ Wider w w' := by
  have hl := h.good
  obtain ⟨sz, hsz⟩ : ∃ sz, ws.sum = sz := ⟨_, rfl⟩
  have h1 := h.blk #[.string low, .string high, .int .i64 prio, .int .i64 v] 42
  obtain ⟨b0, b1, b2, b3⟩ := newR w ⟨low, high, prio, v⟩
  have g0 := (Wider.refl w).alloc (.cells #[.string low, .string high, .int .i64 prio, .int .i64 v] 42)
  obtain ⟨D, A, cw, c, c0, c1, c2, hW, hL⟩ := h1.look
  by_cases k1 : low.size = sz
  · by_cases k2 : high.size = sz
    · have hf3 : inK ws low ⟨low, high, prio, v⟩ = false := by
        cases q : inK ws low ⟨low, high, prio, v⟩ with
        | false => rfl
        | true => exact absurd ⟨k1.trans hsz.symm, k2.trans hsz.symm, q⟩ hf
      have zw := vwithin_c c0 rfl hW hl.w4 hl.sum (key := low) (x := ⟨low, high, prio, v⟩) (k1.trans hsz.symm) (k1.trans hsz.symm) (k2.trans hsz.symm) hf3
      obtain ⟨z0, z1⟩ := eqR k1
      obtain ⟨z2, z3⟩ := eqR k2
      rw [hsz] at c1
      clear h hl hf hf3 h1 c0 c2 hW hL k1 k2 hsz
      go_enter Try.func10, Try.ntmps10
      go_wp2_with (first
        | (go_at_call 23; ((with_reducible refine zw.mono ?_); rintro e w1 ⟨rfl, g⟩; replace g0 := g0.trans g; clear zw g)))
      go_ret
      exact ⟨rfl, g0⟩
    · obtain ⟨z0, z1⟩ := eqR k1
      obtain ⟨z2, z3⟩ := neR k2
      rw [hsz] at c1
      clear h hl hf h1 c0 c2 hW hL k1 k2 hsz
      go_enter Try.func10, Try.ntmps10
      go_wp2
      go_ret
      exact ⟨rfl, g0⟩
  · obtain ⟨z0, z1⟩ := neR k1
    rw [hsz] at c1
    clear h hl hf h1 c0 c2 hW hL k1 hsz
    go_enter Try.func10, Try.ntmps10
    go_wp2
    go_ret
    exact ⟨rfl, g0⟩

/-! ### A new set -/
theorem infoRI : (Try.prog.info? 3).map (fun i => (i.zero, i.size, i.bytes)) = some (some (.int .i64 0), 1, 8) := by kernel_rfl
set_option maxRecDepth 20000 in
set_option maxHeartbeats 4000000 in
theorem vcloneI_c {V w : World} {R : List Thing} (H : Own V w R) {A : Option Addr} {n c : Nat} {xs : List Value} (hn : xs.length = n) (hl : n < 100000) (h0 : A = none → n = 0) (hx : ∀ a, A = some a → ∀ j u, xs[j]? = some u → w.cell? (a.add j) = some u) (h1 : ∀ u ∈ xs, u.oneCell' = true) :
    Calls Try.prog 22 #[.slice A n c] w fun e w' => ∃ B c', e = .returned (.slice B n c') ∧ Own V w' (rowT 3 1 (.slice B n c') n xs :: R) := by
  obtain ⟨i0, hi, hz0, hz1, hz2⟩ := info_parts infoRI
  have q22 : ∀ (W : World) (a : Option Addr) (n c n' c' : Nat), (binOp .eql 27 (.slice a n c) (.slice none n' c')).run Try.prog W = .ok (.bool a.isNone) W := fun W a n c n' c' => Lib.run_eql_slice_nil W _ _ a n c n' c' Try.underlying27
  cases A with
  | none =>
    obtain rfl := h0 rfl
    obtain rfl : xs = [] := List.eq_nil_of_length_eq_zero hn
    have HH := Lib.hid (H.row (Wider.refl _) (World.ownsRow_nil _ _ 3 1))
    clear H hn h0 hx h1
    go_enter Try.func22, Try.ntmps22
    go_wp2
    go_ret
    exact ⟨_, _, rfl, HH.out⟩
  | some a =>
    have H1 : Own V (w.alloc (.cells #[] 3)) (rowT 3 1 (.slice (some ⟨w.heap.size, 0, none⟩) 0 0) 0 [] :: R) := H.row ((Wider.refl w).alloc _) (World.ownsRow_made w #[] 0 (Nat.le_refl _) (Nat.zero_le _) rfl)
    have HX : Hid (∀ b, some a = some b → ∀ j u, xs[j]? = some u → (w.alloc (.cells #[] 3)).cell? (b.add j) = some u) := Lib.hid fun b e j u hj => wkeep ((Wider.refl w).alloc _) (hx b e j u hj)
    have HN : Hid (xs.length = n * 1) := Lib.hid (by omega)
    have H11 := Lib.hid h1
    have S1 : Hid (0 + n ≤ maxLen) := by show _ ≤ maxLen; unfold maxLen; omega
    have S2 : Hid ((0 + n) * 8 ≤ 140737488355328) := by show _ ≤ _; omega
    clear H hn h0 hx h1
    go_enter Try.func22, Try.ntmps22
    go_wp2_with (first
      | (at_builtin; refine wpList_append_thing rfl (.tmp 5) (.tmp 6) 27 rfl 3 i0 (.int .i64 0) 1 8 Try.underlying27 hi hz0 hz1 hz2 rfl (by decide) (.slice (some ⟨w.heap.size, 0, none⟩) 0 0) 0 [] rfl H1 (some a) n c xs rfl HN.out (fun e => by cases e) HX.out H11.out S1.out S2.out (Nat.zero_add n) rfl ?_; intro B3 c3 w5 H5))
    go_ret
    exact ⟨_, _, rfl, H5⟩
set_option maxRecDepth 20000 in
set_option maxHeartbeats 4000000 in
theorem vcloneR_c {V w : World} {R : List Thing} (H : Own V w R) {A : Option Addr} {n c : Nat} {xs : List Value} (hn : xs.length = n * 4) (hl : n < 100000) (h0 : A = none → n = 0) (hx : ∀ a, A = some a → ∀ j u, xs[j]? = some u → w.cell? (a.add j) = some u) (h1 : ∀ u ∈ xs, u.oneCell' = true) :
    Calls Try.prog 30 #[.slice A n c] w fun e w' => ∃ B c', e = .returned (.slice B n c') ∧ Own V w' (rowT 42 4 (.slice B n c') n xs :: R) := by
  obtain ⟨i0, hi, hz0, hz1, hz2⟩ := info_parts infoUR
  have q22 : ∀ (W : World) (a : Option Addr) (n c n' c' : Nat), (binOp .eql 34 (.slice a n c) (.slice none n' c')).run Try.prog W = .ok (.bool a.isNone) W := fun W a n c n' c' => Lib.run_eql_slice_nil W _ _ a n c n' c' Try.underlying34
  cases A with
  | none =>
    obtain rfl := h0 rfl
    obtain rfl : xs = [] := List.eq_nil_of_length_eq_zero (by simpa using hn)
    have HH := Lib.hid (H.row (Wider.refl _) (World.ownsRow_nil _ _ 42 4))
    clear H hn h0 hx h1
    go_enter Try.func30, Try.ntmps30
    go_wp2
    go_ret
    exact ⟨_, _, rfl, HH.out⟩
  | some a =>
    have H1 : Own V (w.alloc (.cells #[] 42)) (rowT 42 4 (.slice (some ⟨w.heap.size, 0, none⟩) 0 0) 0 [] :: R) := H.row ((Wider.refl w).alloc _) (World.ownsRow_made w #[] 0 (Nat.le_refl _) (Nat.zero_le _) rfl)
    have HX : Hid (∀ b, some a = some b → ∀ j u, xs[j]? = some u → (w.alloc (.cells #[] 42)).cell? (b.add j) = some u) := Lib.hid fun b e j u hj => wkeep ((Wider.refl w).alloc _) (hx b e j u hj)
    have HN := Lib.hid hn
    have H11 := Lib.hid h1
    have S1 : Hid (0 + n ≤ maxLen) := by show _ ≤ maxLen; unfold maxLen; omega
    have S2 : Hid ((0 + n) * 48 ≤ 140737488355328) := by show _ ≤ _; omega
    clear H hn h0 hx h1
    go_enter Try.func30, Try.ntmps30
    go_wp2_with (first
      | (at_builtin; refine wpList_append_thing rfl (.tmp 5) (.tmp 6) 34 rfl 42 i0 (.agg #[.string ⟨#[]⟩, .string ⟨#[]⟩, .int .i64 0, .int .i64 0]) 4 48 Try.underlying34 hi hz0 hz1 hz2 rfl (by decide) (.slice (some ⟨w.heap.size, 0, none⟩) 0 0) 0 [] rfl H1 (some a) n c xs rfl HN.out (fun e => by cases e) HX.out H11.out S1.out S2.out (Nat.zero_add n) rfl ?_; intro B3 c3 w5 H5))
    go_ret
    exact ⟨_, _, rfl, H5⟩

end Go.Proofs.Ytpdhahghpdckeaa
