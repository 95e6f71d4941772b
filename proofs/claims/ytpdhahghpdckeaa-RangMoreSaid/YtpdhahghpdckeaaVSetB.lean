/- Package rang: all ranges of a set, one put, a copy, a new set. -/
import Derived.Test.YtpdhahghpdckeaaVSet
import Derived.Test.YtpdhahghpdckeaaUAppend
namespace Go.Proofs.Ytpdhahghpdckeaa
set_option linter.unusedVariables false
open Go.ChangeShapes Go.WideShapes Go.ChangeAt Go.RowKit Go.Joins

theorem cellsR_free (n : Nat) : madeCells #[.string ⟨#[]⟩, .string ⟨#[]⟩, .int .i64 0, .int .i64 0] (n * 4) = (cellsR (List.replicate n zeroR)).toArray := by
  apply Array.ext_getElem?
  intro i
  have r : (cellsR (List.replicate n zeroR)).toArray[i]? = (cellsR (List.replicate n zeroR))[i]? := by simp
  rw [r]; clear r
  have l := cellsR_length (List.replicate n zeroR)
  rw [List.length_replicate] at l
  by_cases c : i < n * 4
  · obtain ⟨p, r, rfl, hr⟩ : ∃ p r, i = p * 4 + r ∧ r < 4 := ⟨i / 4, i % 4, by omega, by omega⟩
    have hp : p < n := by omega
    obtain ⟨a0, a1, a2, a3⟩ := cellsR_at (List.replicate n zeroR) p zeroR (by rw [List.getElem?_replicate, if_pos hp])
    match r, hr with
    | 0, _ =>
      rw [Nat.add_zero] at c ⊢
      rw [a0]
      have m : p * 4 % 4 = 0 := by omega
      simp [madeCells, c, m, zeroR]
    | 1, _ =>
      rw [a1]
      have m : (p * 4 + 1) % 4 = 1 := by omega
      simp [madeCells, c, m, zeroR]
    | 2, _ =>
      rw [a2]
      have m : (p * 4 + 2) % 4 = 2 := by omega
      simp [madeCells, c, m, zeroR]
    | 3, _ =>
      rw [a3]
      have m : (p * 4 + 3) % 4 = 3 := by omega
      simp [madeCells, c, m, zeroR]
  · rw [List.getElem?_eq_none (by omega)]
    simp [madeCells]; omega
theorem makeR (n : Nat) (hn : n < 1000000) (w : World) : (Instr.makeSlice 34 (.int .i64 (n : Int)) (.int .i64 (n : Int))).run Try.prog w = .ok (.slice (some ⟨w.heap.size, 0, none⟩) n n) (w.alloc (.cells (cellsR (List.replicate n zeroR)).toArray 42)) := by
  obtain ⟨i0, hi, hz0, hz1, hz2⟩ := info_parts infoUR
  have h := run_make (P := Try.prog) (w := w) 34 42 i0 _ Try.underlying34 hi hz0 .i64 .i64 (n : Int) (n : Int) (by omega) (by omega) (by rw [hz2]; omega) (by omega)
  rw [hz1, Int.toNat_natCast] at h
  have e : (Value.agg #[.string ⟨#[]⟩, .string ⟨#[]⟩, .int .i64 0, .int .i64 0]).cells = #[.string ⟨#[]⟩, .string ⟨#[]⟩, .int .i64 0, .int .i64 0] := rfl
  rw [e, cellsR_free] at h
  exact h
/-- Things of a call's own, beside those of its caller. -/
theorem Own.overV {V w w' : World} {L M : List Thing} (H : Own V w L) (K : Own w w' M) : Own V w' (M ++ L) where
  holds r m := by
    rcases List.mem_append.1 m with m | m
    · exact K.holds r m
    · exact (H.quiet K.wider).holds r m
  new r m i hi := by
    rcases List.mem_append.1 m with m | m
    · exact ⟨Nat.le_trans H.wider.2 (K.new r m i hi).1, (K.new r m i hi).2⟩
    · exact (H.quiet K.wider).new r m i hi
  apart := List.pairwise_append.2 ⟨K.apart, H.apart, fun a ha b hb i hi hj => by
    have := (K.new a ha i hi).1
    have := (H.new b hb i hj).2
    omega⟩
  stable r m := by
    rcases List.mem_append.1 m with m | m
    · exact K.stable r m
    · exact H.stable r m
  wider := H.wider.trans K.wider
/-! ### A range over a map -/
theorem store4R {V w : World} {R : List Thing} {I j : Nat} {l : List ItR} (H : Own V w (blkT I (cellsR l).toArray 42 :: R)) (hj : j < l.length) (x : ItR) :
    Own V ((((w.setCell ⟨I, j * 4, none⟩ (.string x.low)).setCell ⟨I, j * 4 + 1, none⟩ (.string x.high)).setCell ⟨I, j * 4 + 2, none⟩ (.int .i64 x.prio)).setCell ⟨I, j * 4 + 3, none⟩ (.int .i64 x.v)) (blkT I (cellsR (l.set j x)).toArray 42 :: R) := by
  have h := (((H.store (j * 4) (.string x.low)).store (j * 4 + 1) (.string x.high)).store (j * 4 + 2) (.int .i64 x.prio)).store (j * 4 + 3) (.int .i64 x.v)
  simp only [List.setIfInBounds_toArray] at h
  rw [cellsR_set l j x hj] at h
  exact h
/-- A row of ranges that a call has handed out. -/
abbrev rowA (B : Option Addr) (n c : Nat) (L : List ItR) : Thing := rowT 42 4 (.slice B n c) n (cellsR L)
set_option maxRecDepth 20000 in
set_option maxHeartbeats 8000000 in
theorem vall_c {w : World} {S n c : Nat} {A : Option Addr} {L : List ItR} (c2 : w.cell? ⟨S, 2, none⟩ = some (.slice A n c)) (hL : ItemsAt w A L) (hn : L.length = n) (hl : n < 1000000) (hs : ∀ x ∈ L, x.low.size < 1000000 ∧ x.high.size < 1000000) :
    Calls Try.prog 14 #[.pointer (some ⟨S, 0, none⟩)] w fun e w' => ∃ B c, e = .returned (.slice B n c) ∧ Own w w' [rowA B n c L] := by
  have HL := Lib.hid hL
  have HN := Lib.hid hn
  have HS := Lib.hid hs
  have hmk := makeR n hl w
  have H2 : Own w (w.alloc (.cells (cellsR (List.replicate n zeroR)).toArray 42)) [blkT w.heap.size (cellsR (List.replicate n zeroR)).toArray 42] := (Own.nil (Wider.refl w)).blk _ _
  obtain ⟨I, hI⟩ : ∃ I, w.heap.size = I := ⟨_, rfl⟩
  obtain ⟨W1, hW1⟩ : ∃ W1, w.alloc (.cells (cellsR (List.replicate n zeroR)).toArray 42) = W1 := ⟨_, rfl⟩
  rw [hI, hW1] at hmk H2
  have d2 := wkeep H2.wider c2
  clear hI hW1 hL hn hs
  go_enter Try.func14, Try.ntmps14
  go_wp2
  clear hmk c2 d2
  have HH2 := Lib.hid H2
  clear H2
  go_loopw [19] (fun b wr => ∃ (j : Nat) (l : List ItR), j ≤ n ∧ b = .int .i64 (j : Int) ∧ Hid (l.length = n ∧ ∀ i, i < j → l[i]? = L[i]?) ∧ Own w wr [blkT I (cellsR l).toArray 42]) (fun b _ => n - (intOf b).toNat)
  case atStart => exact ⟨0, _, Nat.zero_le _, by simp, Lib.hid ⟨by simp, fun i h => absurd h (Nat.not_lt_zero i)⟩, HH2.out⟩
  case round =>
    obtain ⟨j, l, hj0, rfl, HJ, H⟩ := hrel
    have j0 : (0 : Int) ≤ (j : Int) := by omega
    by_cases d : j < n
    · have j1 : (j : Int) < (n : Int) := by omega
      obtain ⟨⟨k0, m0, p0, v0⟩, hLj⟩ : ∃ x, L[j]? = some x := ⟨L[j]'(by rw [HN.out]; exact d), List.getElem?_eq_getElem _⟩
      obtain ⟨s1, s2⟩ := HS.out _ (List.mem_of_getElem? hLj)
      have zo : ∀ W, Calls Try.prog 24 #[.agg #[.string k0, .string m0, .int .i64 p0, .int .i64 v0]] W fun e w' => e = .returned (.agg #[.string k0, .string m0, .int .i64 p0, .int .i64 v0]) ∧ Wider W w' := vown_c ⟨k0, m0, p0, v0⟩ s1 s2
      obtain ⟨B, rfl, a0, a1, a2, a3⟩ := HL.out j _ hLj
      have x0 := wkeep H.wider a0
      have x1 := wkeep H.wider a1
      have x2 := wkeep H.wider a2
      have x3 := wkeep H.wider a3
      obtain ⟨y, hy⟩ : ∃ y, l[j]? = some y := ⟨l[j]'(by rw [HJ.out.1]; exact d), List.getElem?_eq_getElem _⟩
      have HY := Lib.hid (cellsR_at l j y hy)
      have HLJ := Lib.hid hLj
      have H3 := H.quiet ((Wider.refl wr).alloc (.cells #[.string k0, .string m0, .int .i64 p0, .int .i64 v0] 42))
      clear H hLj s1 s2 a0 a1 a2 a3 hy
      obtain ⟨b0, b1, b2, b3⟩ := newR wr ⟨k0, m0, p0, v0⟩
      go_wp2_with (first
        | (go_at_call 24; ((with_reducible refine (zo _).mono ?_); rintro e w2 ⟨rfl, g⟩; have H4 := H3.quiet g; have y0 := blk_cell H4.head (j * 4) (by rw [List.getElem?_toArray]; exact HY.out.1); have y1 := blk_cell H4.head (j * 4 + 1) (by rw [List.getElem?_toArray]; exact HY.out.2.1); have y2 := blk_cell H4.head (j * 4 + 2) (by rw [List.getElem?_toArray]; exact HY.out.2.2.1); have y3 := blk_cell H4.head (j * 4 + 3) (by rw [List.getElem?_toArray]; exact HY.out.2.2.2); have f0 := blk_free H4.head (j * 4); have f1 := blk_free H4.head (j * 4 + 1); have f2 := blk_free H4.head (j * 4 + 2); have f3 := blk_free H4.head (j * 4 + 3); clear H3 zo g)))
      go_roundw
      case rel => exact ⟨j + 1, l.set j ⟨k0, m0, p0, v0⟩, by omega, by go_num, Lib.hid (setR_next HJ.out.1 HJ.out.2 d HLJ.out), store4R H4 (by rw [HJ.out.1]; exact d) ⟨k0, m0, p0, v0⟩⟩
      case measure => simp [intOf]; omega
    · obtain rfl : j = n := by omega
      have j1 : ¬ (j : Int) < (j : Int) := by omega
      have HLe : Hid (l = L) := Lib.hid (by
        apply List.ext_getElem?
        intro i
        by_cases c : i < j
        · exact HJ.out.2 i c
        · rw [List.getElem?_eq_none (by rw [HJ.out.1]; omega), List.getElem?_eq_none (by rw [HN.out]; omega)])
      go_wp2
      go_ret
      refine ⟨_, _, rfl, ?_⟩
      have hl := HLe.out
      subst hl
      exact H.rowShut (Nat.le_refl _) (by unfold maxLen; omega) (by rw [cellsR_length, HJ.out.1]) (List.take_of_length_le (by rw [cellsR_length, HJ.out.1]; exact Nat.le_refl _))
variable {V w : World} {R : List Thing} {S N : Nat} {ws : List Nat} {L : List ItR}
theorem RangIs.over {w' : World} {M : List Thing} (h : RangIs V w R S ws L N) (K : Own w w' M) : RangIs V w' (M ++ R) S ws L N := by
  obtain ⟨wv, iv, H, hl⟩ := h
  refine ⟨wv, iv, (H.overV K).perm ?_, hl⟩
  have p : (M ++ ([setT S wv iv ws, rowW wv ws, rowR iv L] ++ R)).Perm ([setT S wv iv ws, rowW wv ws, rowR iv L] ++ (M ++ R)) := by
    rw [← List.append_assoc, ← List.append_assoc]
    exact List.perm_append_comm.append_right R
  exact p
theorem vall_o (h : RangIs V w R S ws L N) (hN : N < 99990) {n : Nat} (hn : L.length = n) :
    Calls Try.prog 14 #[.pointer (some ⟨S, 0, none⟩)] w fun e w' => ∃ B c, e = .returned (.slice B n c) ∧ RangIs V w' (rowA B n c L :: R) S ws L N := by
  obtain ⟨D, A, cw, c, c0, c1, c2, hW, hL⟩ := h.look
  have hl := h.good
  have hsum := hl.sum
  have := hl.len
  rw [hn] at c2
  refine (vall_c c2 hL hn (by omega) fun x hx => ?_).mono fun e w' ⟨B, c, e1, K⟩ => ⟨B, c, e1, h.over K⟩
  have := hl.it x hx
  omega

end Go.Proofs.Ytpdhahghpdckeaa
