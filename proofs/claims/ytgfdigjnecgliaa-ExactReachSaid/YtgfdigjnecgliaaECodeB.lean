/- Package exact: a slot written, the table doubled, a gap closed: by walks of its code. -/
import Derived.Test.YtgfdigjnecgliaaECodeA
import Derived.Test.YtgfdigjnecgliaaEGap
namespace Go.Proofs.Ytgfdigjnecgliaa
set_option linter.unusedVariables false
open Go.ChangeShapes Go.WideShapes Go.ChangeAt Go.RowKit Go.Joins
open Tab

theorem infoE : (Try.prog.info? 47).map (fun i => (i.zero, i.size, i.bytes)) = some (some (.agg #[.string ⟨#[]⟩, .int .i64 0, .bool false]), 3, 32) := by kernel_rfl
theorem infoE_parts : ∃ i, Try.prog.info? 47 = some i ∧ i.zero = some (.agg #[.string ⟨#[]⟩, .int .i64 0, .bool false]) ∧ i.size = 3 ∧ i.bytes = 32 := by
  have h := infoE
  cases e : Try.prog.info? 47 with
  | none => rw [e] at h; cases h
  | some i =>
    rw [e] at h
    simp only [Option.map_some, Option.some.injEq, Prod.mk.injEq] at h
    exact ⟨i, rfl, h.1, h.2.1, h.2.2⟩
theorem makeE (n : Nat) (hn : n < 1000000) (w : World) : (Instr.makeSlice 40 (.int .i64 (n : Int)) (.int .i64 (n : Int))).run Try.prog w = .ok (.slice (some ⟨w.heap.size, 0, none⟩) n n) (w.alloc (.cells (cellsE (List.replicate n none)).toArray 47)) := by
  obtain ⟨i0, hi, hz0, hz1, hz2⟩ := infoE_parts
  have h := run_make (P := Try.prog) (w := w) 40 47 i0 (.agg #[.string ⟨#[]⟩, .int .i64 0, .bool false]) Try.underlying40 hi hz0 .i64 .i64 (n : Int) (n : Int) (by omega) (by omega) (by rw [hz2]; omega) (by omega)
  rw [hz1, Int.toNat_natCast] at h
  have e : madeCells (Value.agg #[.string ⟨#[]⟩, .int .i64 0, .bool false]).cells (n * 3) = (cellsE (List.replicate n none)).toArray := cellsE_free n
  rw [e] at h
  exact h

set_option maxHeartbeats 2000000 in
theorem estore_c {V w : World} {R : List Thing} {B : Nat} {L : SlotsE} {n : Nat} (H : Own V w (blkE B L :: R)) (hL : L.length = n) (hn : n < 1000000) {k : ByteArray} {v : Int} (hk : k.size < 1000000) {p : Nat} (hl : IsLook homeE L k p) :
    Calls Try.prog 22 #[.slice (some ⟨B, 0, none⟩) n n, .agg #[.string k, .int .i64 v, .bool true]] w fun e w' => e = .returned (.tuple #[]) ∧ Own V w' (blkE B (L.set p (some (k, v))) :: R) := by
  have hp : p < n := by have := hl.lt; omega
  have pL := hl.lt
  have p0 : (0 : Int) ≤ (p : Int) := by omega
  have p1 : (p : Int) < (n : Int) := by omega
  have H1 := H.blk #[.string k, .int .i64 v, .bool true] 47
  obtain ⟨d, hd⟩ : ∃ d, D n (homeE k n) p + 1 = d := ⟨_, rfl⟩
  have zf := efind_c (H1.second) hL hn hk hl hd
  have HL := Lib.hid hL
  clear H hd hL
  go_enter Try.func22, Try.ntmps22
  go_wp2_with (first
    | (go_at_call 20; ((with_reducible refine zf.mono ?_); rintro e w1 ⟨rfl, g⟩; replace H1 := H1.quiet g; have b0 := blk_cell H1.head 0 (v := .string k) rfl; have b1 := blk_cell H1.head 1 (v := .int .i64 v) rfl; have b2 := blk_cell H1.head 2 (v := .bool true) rfl; obtain ⟨c0, c1, c2⟩ := slot_cells H1.second pL rfl; have f0 := blk_free H1.second (p * 3); have f1 := blk_free H1.second (p * 3 + 1); have f2 := blk_free H1.second (p * 3 + 2); replace H1 := Own.slot H1.drop pL (some (k, v)); clear g)))
  simp [bodyPost, results, Try.results22]
  exact H1

set_option maxHeartbeats 4000000 in
theorem edoubled_c {V w : World} {R : List Thing} {B : Nat} {L : SlotsE} {n : Nat} (H : Own V w (blkE B L :: R)) (hL : L.length = n) (hn : n < 400000) (hi : Inv homeE L) (hk : ∀ k v, Has L k v → k.size < 1000000) :
    Calls Try.prog 21 #[.slice (some ⟨B, 0, none⟩) n n] w fun e w' => ∃ B' N, e = .returned (.slice (some ⟨B', 0, none⟩) (2 * n) (2 * n)) ∧ Moved homeE L (List.replicate (2 * n) none) N ∧ Own V w' (blkE B' N :: blkE B L :: R) := by
  have n0 : (0 : Int) ≤ 2 * (n : Int) := by omega
  have mk := makeE (2 * n) (by omega)
  have e2 : ((2 * n : Nat) : Int) = 2 * (n : Int) := by omega
  rw [e2] at mk
  have H1 := H.blk (cellsE (List.replicate (2 * n) none)).toArray 47
  have HL := Lib.hid hL
  have HI := Lib.hid hi
  have HK := Lib.hid hk
  obtain ⟨B2, hB2⟩ : ∃ B2, w.heap.size = B2 := ⟨_, rfl⟩
  clear H hL e2 hi hk
  go_enter Try.func21, Try.ntmps21
  go_wp2
  go_loopw [12] (fun i wr => ∃ j : Nat, j ≤ n ∧ i = .int .i64 (j : Int) ∧ ∃ M, Hid (Moved homeE (L.take j) (List.replicate (2 * n) none) M) ∧ Own V wr (blkE B2 M :: blkE B L :: R)) (fun i _ => n - (intOf i).toNat)
  case atStart => exact ⟨0, by omega, by simp, _, by rw [List.take_zero]; exact .nil _, by rw [← hB2]; exact H1⟩
  case round =>
    clear H1 mk
    obtain ⟨j, hj, rfl, M, HM, H⟩ := hrel
    have j0 : (0 : Int) ≤ (j : Int) := by omega
    by_cases c : j < n
    · have j1 : (j : Int) < (n : Int) := by omega
      have jL : j < L.length := by rw [HL.out]; exact c
      have hm : Moved homeE (L.take j) (List.replicate (2 * L.length) none) M := by rw [HL.out]; exact HM.out
      obtain ⟨x, hx⟩ : ∃ x, tk L j = x := ⟨_, rfl⟩
      obtain ⟨c0, c1, c2⟩ := slot_cells H.second jL hx
      have HX := Lib.hid (take_slot jL hx)
      obtain ⟨hc, hml⟩ := moved_cnt HI.out hm
      cases x with
      | none =>
        have H2 := H.blk #[.string (keyO none), .int .i64 (numO none), .bool false] 47
        simp only [Option.isSome_none] at c2
        clear hx hm hc hml
        go_wp2
        go_roundw
        case rel => exact ⟨j + 1, by omega, by go_num, M, by show Moved _ _ _ _; rw [HX.out]; exact HM.out.snoc_free, H2.drop⟩
        case measure => simp [intOf]; omega
      | some y =>
        obtain ⟨k, v⟩ := y
        obtain ⟨p, hp⟩ := moved_look HI.out jL hm k
        have kz := HK.out k v ⟨j, hx⟩
        have H2 := H.blk #[.string k, .int .i64 v, .bool true] 47
        have hml2 : M.length = 2 * n := by rw [hml, HL.out]
        have zs := estore_c H2.swap hml2 (by omega) (v := v) kz hp
        have HP := Lib.hid hp
        simp only [Option.isSome_some, keyO, numO] at c0 c1 c2
        clear hx hm hc hml hp hml2 H2
        go_wp2_with (first
          | (go_at_call 22; ((with_reducible refine zs.mono ?_); rintro e w1 ⟨rfl, H2⟩)))
        go_roundw
        case rel => exact ⟨j + 1, by omega, by go_num, M.set p (some (k, v)), by show Moved _ _ _ _; rw [HX.out]; exact HM.out.snoc HP.out, H2.swap.drop⟩
        case measure => simp [intOf]; omega
    · obtain rfl : j = n := by omega
      have hm := HM.out
      rw [List.take_of_length_le (by rw [HL.out]; exact Nat.le_refl _)] at hm
      have HM2 := Lib.hid hm
      have i1 : ¬ (j : Int) < (j : Int) := by omega
      clear hm
      go_wp2
      go_ret
      exact ⟨_, rfl, _, HM2.out, H⟩
end Go.Proofs.Ytgfdigjnecgliaa
