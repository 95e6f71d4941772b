/- Package tern: nobody's set, and what may not be put: by walks of its code. -/
import Derived.Test.YtjjgdnaejeejlaaUSetI
namespace Go.Proofs.Ytjjgdnaejeejlaa
set_option linter.unusedVariables false
open Go.ChangeShapes Go.WideShapes Go.ChangeAt Go.RowKit Go.Joins Go.Maps Go.ChangeMaps

theorem tput_nil (x : ItN) (w : World) : Calls Try.prog 14 #[.pointer none, aggI x] w fun e w' => e = .returned (.int .i64 2) ∧ Wider w w' := by
  obtain ⟨key, mask, prio, v⟩ := x
  show Calls Try.prog 14 #[.pointer none, .agg #[.string key, .string mask, .int .i64 prio, .int .i64 v]] w _
  have H := (Wider.refl w).alloc (.cells #[.string key, .string mask, .int .i64 prio, .int .i64 v] 26)
  go_enter Try.func14, Try.ntmps14
  go_wp2
  go_ret
  exact ⟨rfl, H⟩
theorem tput_bad {A : Nat} (x : ItN) (hs : x.key.size < 1000000) (hf : ¬ FormN x) (w : World) : Calls Try.prog 14 #[.pointer (some ⟨A, 0, none⟩), aggI x] w fun e w' => e = .returned (.int .i64 3) ∧ Wider w w' := by
  have zm := umatch_c x x.key hs (b := false) ⟨fun h => (by cases h), fun h => absurd h hf⟩
  obtain ⟨key, mask, prio, v⟩ := x
  have zm : ∀ W, Calls Try.prog 10 #[.agg #[.string key, .string mask, .int .i64 prio, .int .i64 v], .string key] W fun e w' => e = .returned (.bool false) ∧ Wider W w' := zm
  show Calls Try.prog 14 #[.pointer (some ⟨A, 0, none⟩), .agg #[.string key, .string mask, .int .i64 prio, .int .i64 v]] w _
  have H := (Wider.refl w).alloc (.cells #[.string key, .string mask, .int .i64 prio, .int .i64 v] 26)
  clear hs hf
  go_enter Try.func14, Try.ntmps14
  go_wp2_with (first
    | (go_at_call 10; ((with_reducible refine (zm _).mono ?_); rintro e w1 ⟨rfl, g1⟩; replace H := H.trans g1; clear g1)))
  go_ret
  exact ⟨rfl, H⟩
theorem tdel_nil (k m : ByteArray) (q : Int) (w : World) : Calls Try.prog 17 #[.pointer none, .string k, .string m, .int .i64 q] w fun e w' => e = .returned (.bool false) ∧ w = w' := by
  go_enter Try.func17, Try.ntmps17
  go_wp2
  go_ret
  exact ⟨rfl, rfl⟩
theorem tlen_nil (w : World) : Calls Try.prog 15 #[.pointer none] w fun e w' => e = .returned (.int .i64 0) ∧ w = w' := by
  go_enter Try.func15, Try.ntmps15
  go_wp2
  go_ret
  exact ⟨rfl, rfl⟩
theorem tmasks_nil (w : World) : Calls Try.prog 16 #[.pointer none] w fun e w' => e = .returned (.int .i64 0) ∧ w = w' := by
  go_enter Try.func16, Try.ntmps16
  go_wp2
  go_ret
  exact ⟨rfl, rfl⟩
theorem tcopy_nil (w : World) : Calls Try.prog 21 #[.pointer none] w fun e w' => e = .returned (.pointer none) ∧ w = w' := by
  go_enter Try.func21, Try.ntmps21
  go_wp2
  go_ret
  exact ⟨rfl, rfl⟩
theorem tall_nil (w : World) : Calls Try.prog 20 #[.pointer none] w fun e w' => e = .returned (.slice none 0 0) ∧ w = w' := by
  go_enter Try.func20, Try.ntmps20
  go_wp2
  go_ret
  exact ⟨rfl, rfl⟩
set_option maxHeartbeats 4000000 in
theorem tsearch_nil (key : ByteArray) (w : World) : Calls Try.prog 34 #[.pointer none, .string key] w fun e w' => e = .returned (.tuple #[.agg #[.string ⟨#[]⟩, .string ⟨#[]⟩, .int .i64 0, .int .i64 0, .int .i64 0], .bool false, .int .i64 0]) ∧ Wider w w' := by
  have H : Own w (w.alloc (.cells #[.string ⟨#[]⟩, .string ⟨#[]⟩, .int .i64 0, .int .i64 0, .int .i64 0] 63)) [blkT w.heap.size #[.string ⟨#[]⟩, .string ⟨#[]⟩, .int .i64 0, .int .i64 0, .int .i64 0] 63] := (Own.nil (Wider.refl w)).blk _ _
  obtain ⟨B4, hB4⟩ : ∃ B4, w.heap.size = B4 := ⟨_, rfl⟩
  obtain ⟨W0, hW0⟩ : ∃ W0, w.alloc (.cells #[.string ⟨#[]⟩, .string ⟨#[]⟩, .int .i64 0, .int .i64 0, .int .i64 0] 63) = W0 := ⟨_, rfl⟩
  rw [hW0, hB4] at H
  have y0 := blk_cell H.head 0 (v := .string ⟨#[]⟩) rfl
  have f0 := blk_free H.head 0
  have y1 := blk_cell H.head 1 (v := .string ⟨#[]⟩) rfl
  have f1 := blk_free H.head 1
  have y2 := blk_cell H.head 2 (v := .int .i64 0) rfl
  have f2 := blk_free H.head 2
  have y3 := blk_cell H.head 3 (v := .int .i64 0) rfl
  have f3 := blk_free H.head 3
  have y4 := blk_cell H.head 4 (v := .int .i64 0) rfl
  have f4 := blk_free H.head 4
  go_enter Try.func34, Try.ntmps34
  try rw [hW0]
  try rw [hB4]
  go_wp2
  simp [bodyPost, results, Try.results34, go_sem, y0, y1, y2, y3, y4]
  exact store5 H _ _ _ _ _
theorem tlooks_nil (key : ByteArray) (w : World) : Calls Try.prog 19 #[.pointer none, .string key] w fun e w' => e = .returned (.int .i64 0) ∧ Wider w w' := by
  have zs := tsearch_nil key w
  go_enter Try.func19, Try.ntmps19
  go_wp2_with (first
    | (go_at_call 34; ((with_reducible refine zs.mono ?_); rintro e w1 ⟨rfl, g1⟩; have HW := g1.alloc (.cells #[.string ⟨#[]⟩, .string ⟨#[]⟩, .int .i64 0, .int .i64 0, .int .i64 0] 63); clear zs g1)))
  go_ret
  exact ⟨rfl, HW⟩
theorem tfind_nil (key : ByteArray) (w : World) : Calls Try.prog 18 #[.pointer none, .string key] w fun e w' => e = .returned (.tuple #[aggI zeroI, .bool false]) ∧ Wider w w' := by
  have H : Own w (w.alloc (.cells #[.string ⟨#[]⟩, .string ⟨#[]⟩, .int .i64 0, .int .i64 0] 26)) [blkT w.heap.size #[.string ⟨#[]⟩, .string ⟨#[]⟩, .int .i64 0, .int .i64 0] 26] := (Own.nil (Wider.refl w)).blk _ _
  have zs := fun W => tsearch_nil key W
  obtain ⟨B4, hB4⟩ : ∃ B4, w.heap.size = B4 := ⟨_, rfl⟩
  obtain ⟨W0, hW0⟩ : ∃ W0, w.alloc (.cells #[.string ⟨#[]⟩, .string ⟨#[]⟩, .int .i64 0, .int .i64 0] 26) = W0 := ⟨_, rfl⟩
  rw [hW0, hB4] at H
  show Calls _ _ _ _ fun e w' => e = .returned (.tuple #[.agg #[.string ⟨#[]⟩, .string ⟨#[]⟩, .int .i64 0, .int .i64 0], .bool false]) ∧ Wider w w'
  go_enter Try.func18, Try.ntmps18
  try rw [hW0]
  try rw [hB4]
  go_wp2_with (first
    | (go_at_call 34; ((with_reducible refine (zs _).mono ?_); rintro e w1 ⟨rfl, g1⟩; have H1 := H.quiet (g1.alloc (.cells #[.string ⟨#[]⟩, .string ⟨#[]⟩, .int .i64 0, .int .i64 0, .int .i64 0] 63)); have y0 := blk_cell H1.head 0 (v := .string ⟨#[]⟩) rfl; have y1 := blk_cell H1.head 1 (v := .string ⟨#[]⟩) rfl; have y2 := blk_cell H1.head 2 (v := .int .i64 0) rfl; have y3 := blk_cell H1.head 3 (v := .int .i64 0) rfl; have f0 := blk_free H1.head 0; have f1 := blk_free H1.head 1; have f2 := blk_free H1.head 2; have f3 := blk_free H1.head 3; clear zs g1 H)))
  simp [bodyPost, results, Try.results18, go_sem, y0, y1, y2, y3]
  exact store4W H1 _ _ _ _

end Go.Proofs.Ytjjgdnaejeejlaa
